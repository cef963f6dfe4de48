
/- slices.Values, AppendSeq, Collect, Sort and Sorted over ints: contracts. -/
import Derived.RangeFuncNested
import Derived.RangeFuncBound
import Derived.RangeFuncCalls
import Derived.RangeFuncLeaves
import Derived.Shelf.Abstract
import Derived.Shelf.RegionOpen
import Derived.WalkKit
import Derived.OwnWalkIn
import Derived.TacticsInMore
import Derived.LoopNIn
import Derived.LoopIn
import Derived.Maps.AppendAt
import Derived.Test.YtphagahhhfiiaaaInts
import Derived.Test.YtphagahhhfiiaaaPart
import Derived.Test.YtphagahhhfiiaaaBlk
import Derived.Test.YtphagahhhfiiaaaOwnVar
import Derived.Test.YtphagahhhfiiaaaAppend2
import Derived.Deep.AppendLies
import Derived.Test.YtphagahhhfiiaaaBox
import Derived.Test.YtphagahhhfiiaaaSortIntShelf
namespace Go.Proofs.Ytphagahhhfiiaaa
open Go.RowKit Go.Shelf Go.Sort
set_option maxRecDepth 100000
attribute [local go_sem] Oper.semAt_some

/-- The iterator value 'func g over lb' hands xs over, one by one, to every loop whose rounds keep Kp. -/
def SeqI (g : Nat) (lb : Array Value) (Kp : World → World → Prop) (N : Nat) (xs : List Int) (w : World) : Prop :=
  ∀ n, 1 ≤ n → SeqStopsK Fence.wide n Try.prog g lb (fun x : Int => #[.int .i64 x]) Kp (fun ys => ys = xs) (fun _ => True) N w
theorem SeqI.later {g : Nat} {lb : Array Value} {Kp : World → World → Prop} {N : Nat} {xs : List Int} {w w' : World} (h : SeqI g lb Kp N xs w) (hb : Below w.heap.size w w') : SeqI g lb Kp N xs w' :=
  fun n hn l J Jx W hW hJ hJx hY h0 => h n hn l J Jx W (hb.trans (hW.mono hb.size)) hJ hJx hY h0
theorem take_snocI (l : List Int) (k : Nat) (x : Int) (h : l[k]? = some x) : l.take (k + 1) = l.take k ++ [x] := by rw [List.take_add_one, h]; rfl

set_option maxHeartbeats 8000000 in
theorem valuesInt1 (A : Option Addr) (c : Nat) (l : List Int) (Bn : Nat) (w : World) (h : SlInt w (.slice A l.length c) l) (hBn : Bn < w.heap.size) (hc0 : w.cell? ⟨Bn, 0, none⟩ = some (.slice A l.length c)) :
    SeqI 56 #[.pointer (some ⟨Bn, 0, none⟩)] (Below w.heap.size) l.length l w := by
  intro n hn lp J Jx W hW hJ hJx hY h0
  have hl := h.1
  have HS := Lib.hid h
  have hcW : W.cell? ⟨Bn, 0, none⟩ = some (.slice A l.length c) := (hW.cell (p := ⟨Bn, 0, none⟩) hBn).trans hc0
  have HJ := Lib.hid hJ
  have HY := Lib.hid hY
  have H0 := Lib.hid h0
  have HW := Lib.hid hW
  clear hJ hJx hY h0 hW hc0 h
  change CallsIn Fence.wide n Try.prog 56 #[.func (.yield lp) #[] #[], .pointer (some ⟨Bn, 0, none⟩)] W _
  refine callsIn_of_wp Try.func56 rfl trivial ?_ rfl
  simp only [Try.ntmps56, List.size_toArray, List.length_cons, List.length_nil, Nat.reduceAdd, Nat.reduceSub, Array.replicate_succ, Array.replicate_zero, List.push_toArray, List.append_toArray, List.nil_append, List.cons_append]
  gi_wp2
  gi_loopw [7] (fun i wr => ∃ (k : Nat) (acc : List Int), k ≤ l.length ∧ i = .int .i64 k ∧ Hid (l.take k = acc) ∧ acc.length ≤ k ∧ Hid (J acc wr) ∧ Hid (Below w.heap.size w wr) ∧ w.heap.size ≤ wr.heap.size) (fun i _ => l.length - (intOf i).toNat)
  case atStart => exact ⟨0, [], Nat.zero_le _, rfl, Lib.hid rfl, Nat.le_refl _, H0, HW, HW.out.size⟩
  case round =>
    obtain ⟨k, acc, hk, rfl, hE, hal, hJs, hb, hsz⟩ := hrel
    by_cases hlt : k < l.length
    rotate_left
    · obtain rfl : k = l.length := by omega
      rw [List.take_length] at hE
      gi_wp2
      go_end0
      first
        | exact ⟨⟨_, rfl⟩, .inl ⟨_, hE.out.symm, hJs.out⟩⟩
        | exact ⟨⟨_, rfl⟩, .inl (by rw [hE.out]; exact hJs.out)⟩
    · obtain ⟨x, hx⟩ : ∃ x, l[k]? = some x := ⟨_, List.getElem?_eq_getElem hlt⟩
      rcases HS.out.2 with ⟨he, _⟩ | ⟨g, o, c', e, hpos, hcap, hc⟩
      · rw [he] at hx; simp at hx
      injection e with hA' _ hcp
      subst hA' hcp
      have a0 := cell_onV (SlInt.cells hc k x hx) hb.out
      have EF := Lib.hid (take_snocI l k x hx)
      rw [hE.out] at EF
      clear hx hc hpos hcap
      obtain ⟨fn, tmps, assign, body, hy, hR⟩ := HY.out _ x _ hJs.out (by omega)
      have HR := Lib.hid hR
      clear hR
      gi_wp2
      refine HR.out.mono ?_
      rintro e W3 (⟨rfl, hJ3, hk3⟩ | ⟨rfl, hJx3⟩)
      · have HB3 := Lib.hid (hb.out.trans hk3)
        have hs3 : w.heap.size ≤ W3.heap.size := HB3.out.size
        have H3 := Lib.hid hJ3
        clear hJ3 hk3 hy
        gi_wp2
        go_roundw
        case rel => exact ⟨k + 1, _, by omega, by go_num, EF, by simp; omega, H3, HB3, hs3⟩
        case measure => simp [intOf]; omega
      · gi_wp2
        refine bodyPost_ret (results_none rfl _ _ _) rfl ?_
        exact ⟨⟨_, rfl⟩, .inr ⟨_, trivial, hJx3⟩⟩

theorem valuesInt_any (A : Option Addr) (n c : Nat) (w : World) :
    Calls Try.prog 41 #[.slice A n c] w fun e w' => e = .returned (.func (.func 56) #[] #[.pointer (some ⟨w.heap.size, 0, none⟩)]) ∧ w' = w.alloc (.cells #[.slice A n c] 25) := by
  go_enter Try.func41, Try.ntmps41
  go_wp2
  go_ret
  exact ⟨rfl, rfl⟩

set_option maxHeartbeats 4000000 in
theorem appendSeqInt_any (g : Nat) (lb : Array Value) (n₀ N : Nat) (xs : List Int) (w : World) (hseq : SeqI g lb (Below n₀) N xs w) (hn₀ : n₀ ≤ w.heap.size) (eg : ∀ args w, (callFunc g args).run Try.prog w = .ok (.enter g args) w) (hlen : N ≤ 4000000000) :
    Calls Try.prog 58 #[.slice none 0 0, .func (.func g) #[] lb] w (NewInt xs w) := by
  refine (callsIn_wide (n := 9)).1 ?_
  obtain ⟨i0, hi, hz0, hz1, hz2⟩ := info1_int
  refine callsIn_of_wp_marks Try.func58 rfl trivial ?_ rfl
  simp only [Try.ntmps58, List.size_toArray, List.length_cons, List.length_nil, Nat.reduceAdd, Nat.reduceSub, Array.replicate_succ, Array.replicate_zero, List.push_toArray, List.append_toArray, List.nil_append, List.cons_append]
  gi_wp2
  have bO := Boxed.new w 25 (.slice none 0 0)
  have hB0 : Below w.heap.size w (w.alloc (.cells #[.slice none 0 0] 25)) := (Below.refl _ w).alloc (Nat.le_refl _) _
  refine wpIn_rangeFunc_ownH rfl (by omega) (gf := g) (lb := lb) rfl trivial eg
    (hseq.later hB0 8 (by omega)) (fun h k => h.trans k) (fun W l o o' hl h h1 h2 => belowK_b (w := w.alloc (.cells #[.slice none 0 0] 25)) (by simp; omega) W l o o' hl h h1 h2) (Below.refl _ _) (fun _ => rfl)
    (fun (pre : List Int) W => (∃ v, Boxed W w.heap.size 25 v ∧ W.ownsRow w.heap.size 3 1 v pre.length (pre.flatMap intCells) ∧ True) ∧ Below w.heap.size w W)
    (fun _ _ _ => False)
    (OwnFrom.and (Own.from (holdsRow_own w.heap.size w.heap.size 25 3 1 (fun pre : List Int => pre.length) (fun pre : List Int => pre.flatMap intCells) (fun _ _ => True)) _) (ownFrom_below (Nat.le_refl _) (by simp)))
    (fun _ _ _ _ _ hs _ _ => hs)
    ⟨⟨_, bO, World.ownsRow_nil _ _ _ _, trivial⟩, hB0⟩
    (fun x a' _ => a' = { tmps := #[.slice none 0 0, .func (.func g) #[] lb, .pointer (some ⟨w.heap.size, 0, none⟩), undef, .slice none 0 0, .int .i64 x, .func (.func g) #[] lb, .int .i64 x, undef, undef, undef, undef, undef], defers := [] })
    (fun x a' _ X Y row hs hg hr => hs)
    ?assign ?body ?done ?stop
  case assign =>
    rintro l pre x W K ⟨⟨v, bv, hrow, ht⟩, hB1⟩ hK
    gi_wp2
    exact hK _ _ ((KeepsOthers.refl _).from _) (Below.refl _ _) ⟨⟨v, bv, hrow, ht⟩, hB1⟩ rfl
  case body =>
    rintro l pre x a' W hl ⟨r, hr⟩ ⟨⟨v, hv, hrow, -⟩, hB⟩ rfl hlt
    have hc := hv.cell
    gi_wp2_with (gi_at_builtin; refine wpListIn_append_full _ rfl _ _ 25 rfl w.heap.size 3 i0 _ 1 8 Try.underlying25 hi hz0 hz1 hz2 rfl (by decide) _ _ _ rfl (hrow.alloc _) ⟨W.heap.size, 0, none⟩ 1 1 [.int .i64 x] rfl rfl (World.news_of_block (heap_alloc_new _ _)) (by simp [Value.oneCell']) (by unfold maxLen; omega) (by omega) (by have := hB.size; simp; omega) ?_; intro v' w1 hown' hgrow hfull; obtain ⟨g', cap', rfl⟩ := ownsRow_succ hown'; obtain ⟨hv1, hv2, hr2, hk2, hb2⟩ := hv.appended (by decide) hrow hB.size (Nat.le_refl _) hown' hgrow; have hc1 := hv1.cell; have hf1 := hv1.frozen; clear hfull)
    exact ⟨hk2.from _, hb2.mono hn₀, ⟨_, hv2, by simpa [intCells] using hr2, trivial⟩, hB.trans hb2⟩
  case done =>
    rintro D ys W hD rfl ⟨⟨v, hv, hrow, _⟩, hB⟩ hK
    have hc := hv.cell
    gi_wp2
    refine ⟨by simp, .inl ⟨_, _, rfl, run_takeDeferred hK, ?_⟩⟩
    exact ⟨_, results_tmp rfl _ _ _, v, rfl, ownsRow_putObj hrow _ hK rfl, hB.trans (belowK_b (w := w) (Nat.le_refl _) W D _ _ (by simp at hD; omega) hK rfl rfl)⟩
  case stop =>
    rintro D c pre W _ _ h _
    exact h.elim

set_option maxHeartbeats 2000000 in
theorem collectInt_any (g : Nat) (lb : Array Value) (n₀ N : Nat) (xs : List Int) (w : World) (hseq : SeqI g lb (Below n₀) N xs w) (hn₀ : n₀ ≤ w.heap.size) (eg : ∀ args w, (callFunc g args).run Try.prog w = .ok (.enter g args) w) (hlen : N ≤ 4000000000) :
    Calls Try.prog 54 #[.func (.func g) #[] lb] w (NewInt xs w) := by
  have HA := Lib.hid (appendSeqInt_any g lb n₀ N xs w hseq hn₀ eg hlen)
  clear hseq eg
  go_enter Try.func54, Try.ntmps54
  go_wp2_with fail
  refine HA.out.mono ?_
  intro e w1 hnew
  obtain ⟨v, rfl, h1, h2⟩ := hnew
  have H1 := Lib.hid h1
  have H2 := Lib.hid h2
  obtain ⟨A, c, rfl⟩ := own_form h1
  clear h1 h2
  go_wp2
  go_ret
  exact ⟨_, rfl, H1.out, H2.out⟩

theorem flat_ints (l : List Int) : l.flatMap intCells = l.map (Value.int .i64) := by
  induction l with
  | nil => rfl
  | cons y l ih => rw [List.flatMap_cons, ih]; rfl
/-- The list in ascending order. -/
def sortedI (l : List Int) : List Int := l.mergeSort (fun x y => decide (x ≤ y))
theorem sortInt_any (v : Value) (xs : List Int) (base : Nat) (w : World) (h : OwnInt w base v xs) (hbase : base ≤ w.heap.size) (hx : xs.length ≤ 1000000000) :
    Calls Try.prog 55 #[v] w fun e w' => e = .returned (.tuple #[]) ∧ OwnInt w' base v (sortedI xs) ∧ Below base w w' := by
  unfold OwnInt OwnOf at h ⊢
  rw [flat_ints] at h ⊢
  rcases h.2 with ⟨rfl, hz⟩ | ⟨g, cap, cur, rfl, hb, hg, hnc, hcm, hcs, htake⟩
  · have hss : xs = [] := List.eq_nil_of_length_eq_zero hz
    subst hss
    refine (AnyM.slices_Sort_int_none Try.sortA none 0 w).mono ?_
    rintro e w' ⟨rfl, rfl⟩
    exact ⟨rfl, by simpa [sortedI] using h, Below.refl _ _⟩
  · have hH : Holds encZ w g 0 xs.toArray := holds_of_block_i hg (by simpa using htake)
    have hgl : g < w.heap.size := (Array.getElem?_eq_some_iff.1 hg).1
    refine (AnyM.slices_Sort_int Try.sortA g 0 cap xs w hH hgl (by omega)).mono ?_
    rintro e w' ⟨rfl, n, os, rfl⟩
    have hl : (sortedI xs).length = xs.length := by unfold sortedI; exact List.length_mergeSort _
    refine ⟨rfl, ?_, (Below.refl base w).grown (grownBy_sorted_i _) (by omega) (fun j hj => by cases hj; exact hb)⟩
    have := ownsRow_sorted_i (os := os) (n := n) (ss := xs) (ts := sortedI xs) hl hb hg hnc hcm (by simpa using hcs)
    rw [hl]
    exact this

set_option maxHeartbeats 2000000 in
theorem sortedInt_any (g : Nat) (lb : Array Value) (n₀ N : Nat) (xs : List Int) (w : World) (hseq : SeqI g lb (Below n₀) N xs w) (hn₀ : n₀ ≤ w.heap.size) (eg : ∀ args w, (callFunc g args).run Try.prog w = .ok (.enter g args) w) (hlen : N ≤ 4000000000) (hx : xs.length ≤ 1000000000) :
    Calls Try.prog 40 #[.func (.func g) #[] lb] w (NewInt (sortedI xs) w) := by
  have HC := Lib.hid (collectInt_any g lb n₀ N xs w hseq hn₀ eg hlen)
  clear hseq eg
  go_enter Try.func40, Try.ntmps40
  go_wp2_with fail
  refine HC.out.mono ?_
  intro e w1 hnew
  obtain ⟨v, rfl, h1, h2⟩ := hnew
  have CF := Lib.hid (sortInt_any v xs w.heap.size w1 h1 h2.size hx)
  have B1 := Lib.hid h2
  obtain ⟨A, c, rfl⟩ := own_form h1
  clear h1 h2
  go_wp2_with fail
  refine CF.out.mono ?_
  rintro e w2 ⟨rfl, ho, hb⟩
  have HO := Lib.hid ho
  have B2 := Lib.hid (B1.out.trans hb)
  clear ho hb
  go_wp2
  go_ret
  exact ⟨_, rfl, HO.out, B2.out⟩
end Go.Proofs.Ytphagahhhfiiaaa
