
/- What ExactSailRoute and ExactFirstSail rests on, part 15: contracts and mathematics. -/
import Derived.Test.YtooeikimoheecaaGreatSf12
import Derived.RangeFuncNested
import Derived.RangeFuncBound
import Derived.RangeFuncCalls
import Derived.RangeFuncLeaves
import Derived.Shelf.Abstract
import Derived.Shelf.RegionOpen
import Derived.WalkKit
import Derived.OwnWalkIn
import Derived.TacticsInMore
import Derived.LoopNIn
import Derived.LoopIn
import Derived.Maps.AppendAt
import Derived.Laws.AppendOwn
import Derived.Test.YtooeikimoheecaaGreatSf1
namespace Go.Proofs.YtooeikimoheecaaGreat
open Go.RowKit
set_option maxRecDepth 100000
def longB (n : Int) (x : WindowD) : Bool := decide (n ≤ x.tt - x.fr)
def cutW (n : Int) (x : WindowD) : WindowD := ⟨x.fr, x.tt - n⟩
def shrW (n : Int) (l : List WindowD) : List WindowD := (l.filter (longB n)).map (cutW n)
def shrinkL (l : List WindowD) (n : Int) : List WindowD := if winB l = true ∧ inB n 0 2880 = true then shrW n l else []
theorem shrW_yes {n : Int} {l : List WindowD} {k : Nat} {x : WindowD} (h : l[k]? = some x) (hp : n ≤ x.tt - x.fr) : shrW n (l.take (k + 1)) = shrW n (l.take k) ++ [⟨x.fr, x.tt - n⟩] := by
  unfold shrW
  rw [take_snoc' l k x h, List.filter_append, List.map_append]
  simp [longB, hp, cutW]
theorem shrW_no {n : Int} {l : List WindowD} {k : Nat} {x : WindowD} (h : l[k]? = some x) (hp : ¬ n ≤ x.tt - x.fr) : shrW n (l.take (k + 1)) = shrW n (l.take k) := by
  unfold shrW
  rw [take_snoc' l k x h, List.filter_append, List.map_append]
  simp [longB, hp]
theorem shrW_len (n : Int) (l : List WindowD) : (shrW n l).length ≤ l.length := by
  unfold shrW; rw [List.length_map]; exact List.length_filter_le _ _
theorem shrinkL_bad {l : List WindowD} {n : Int} (h : winB l = false) : shrinkL l n = [] := by unfold shrinkL; rw [h]; simp
theorem shrinkL_off {l : List WindowD} {n : Int} (h : inB n 0 2880 = false) : shrinkL l n = [] := by unfold shrinkL; rw [h]; simp
theorem shrinkL_ok {l : List WindowD} {n : Int} (h : winB l = true) (hn : inB n 0 2880 = true) : shrinkL l n = shrW n (l.take l.length) := by unfold shrinkL; rw [h, hn, List.take_length]; simp
set_option maxHeartbeats 8000000 in
theorem implShrinkWindows (v : Value) (l : List WindowD) (n : Int) (w : World) (h : SlWindow w v l) :
    Calls Tryz.prog 121 #[v, .int .i64 n] w (NewWindow (shrinkL l n) w) := by
  have H := Lib.hid h
  cases hok : winB l with
  | false =>
    have E := Lib.hid (shrinkL_bad (n := n) hok)
    have HOK := Lib.hid hok
    obtain ⟨A, c, rfl⟩ := h.at
    clear hok h
    go_enter Tryz.func121, Tryz.ntmps121
    go_wp2_with fail
    refine (implWindowsOk _ l _ H.out).mono ?_
    rw [HOK.out]
    rintro e w1 ⟨rfl, hb1⟩
    have B1 := Lib.hid hb1
    clear hb1
    go_wp2
    go_ret
    exact NewWindow.empty B1.out E.out
  | true =>
    cases hm : inB n 0 2880 with
    | false =>
      have E := Lib.hid (shrinkL_off (l := l) hm)
      have HOK := Lib.hid hok
      have HM := Lib.hid hm
      obtain ⟨A, c, rfl⟩ := h.at
      clear hok h hm
      go_enter Tryz.func121, Tryz.ntmps121
      go_wp2_with fail
      refine (implWindowsOk _ l _ H.out).mono ?_
      rw [HOK.out]
      rintro e w1 ⟨rfl, hb1⟩
      have B1 := Lib.hid hb1
      have hz1 := hb1.size
      clear hb1
      go_wp2_with fail
      refine (isMinute_any _ _).mono ?_
      rw [HM.out]
      rintro e w2 ⟨rfl, rfl⟩
      go_wp2
      go_ret
      exact NewWindow.empty B1.out E.out
    | true =>
      have HF := Lib.hid (winB_true hok)
      have HOK := Lib.hid hok
      have HM := Lib.hid hm
      have hn : 0 ≤ n ∧ n ≤ 2880 := of_decide_eq_true hm
      obtain ⟨hn0, hn1⟩ := hn
      have E := Lib.hid (shrinkL_ok hok hm)
      clear hok hm
      obtain ⟨i0, hin, hz0, hzs, hz2⟩ := info_parts info_window
      have HI := Lib.hid hin
      clear hin
      obtain ⟨hl, h⟩ := h
      rcases h with ⟨rfl, A, c, rfl⟩ | ⟨g, o, c, rfl, hp, hcap, hc⟩
      · go_enter Tryz.func121, Tryz.ntmps121
        go_wp2_with fail
        refine (implWindowsOk _ [] _ H.out).mono ?_
        rw [HOK.out]
        rintro e w1 ⟨rfl, hb1⟩
        have B1 := Lib.hid hb1
        have hz1 := hb1.size
        clear hb1
        go_wp2_with fail
        refine (isMinute_any _ _).mono ?_
        rw [HM.out]
        rintro e w2 ⟨rfl, rfl⟩
        go_wp2
        have G0 := Lib.hid (GathW.empty B1.out)
        refine wp_loop_rounds 1 ?_
        rw [rounds_succ]
        go_wp2
        go_ret
        exact G0.out.new E.out
      · have HC := Lib.hid hc
        clear hc
        go_enter Tryz.func121, Tryz.ntmps121
        go_wp2_with fail
        refine (implWindowsOk _ l _ H.out).mono ?_
        rw [HOK.out]
        rintro e w1 ⟨rfl, hb1⟩
        have B1 := Lib.hid hb1
        have hz1 := hb1.size
        clear hb1
        go_wp2_with fail
        refine (isMinute_any _ _).mono ?_
        rw [HM.out]
        rintro e w2 ⟨rfl, rfl⟩
        go_wp2
        have G0 := Lib.hid (GathW.empty B1.out)
        go_loopw [5, 18] (fun s i wr => ∃ k : Nat, k ≤ l.length ∧ i = .int .i64 k ∧ Hid (GathW w s (shrW n (l.take k)) wr)) (fun _ i _ => l.length - (intOf i).toNat)
        case atStart => exact ⟨0, Nat.zero_le _, rfl, by simpa [shrW] using G0⟩
        case round =>
          obtain ⟨k, hk, rfl, hG⟩ := hrel
          by_cases hlt : k < l.length
          rotate_left
          · obtain rfl : k = l.length := by omega
            go_wp2
            go_ret
            exact hG.out.new E.out
          · obtain ⟨x, hx⟩ : ∃ x, l[k]? = some x := ⟨_, List.getElem?_eq_getElem hlt⟩
            obtain ⟨p0, p1⟩ := SlWindow.cells HC.out k x hx
            have hg : g < w.heap.size := World.block_lt_of_cell? w ⟨g, o + k * 2, none⟩ p0
            have a0 := (hG.out.2.cell (p := ⟨g, o + k * 2, none⟩) hg).trans p0
            have a1 := (hG.out.2.cell (p := ⟨g, o + k * 2 + 1, none⟩) hg).trans p1
            have HX := Lib.hid hx
            obtain ⟨t0, t1, t2⟩ := HF.out.time hlt hx
            have hsz := hG.out.size
            have hgr : g < wr.heap.size := by omega
            clear p0 p1 hx
            have hW1 := Lib.hid (Joins.below_alloc1 wr (.cells #[.int .i64 x.fr, .int .i64 x.tt] 145))
            by_cases hlong : n ≤ x.tt - x.fr
            · have EF := Lib.hid (shrW_yes HX.out hlong)
              have hal := shrW_len n (l.take k)
              rw [List.length_take] at hal
              obtain ⟨acc, hacc⟩ : ∃ acc, shrW n (l.take k) = acc := ⟨_, rfl⟩
              rw [hacc] at hG hal
              have HA := Lib.hid hacc
              clear hacc
              have hW := Lib.hid (Joins.below_alloc2 wr (.cells #[.int .i64 x.fr, .int .i64 x.tt] 145) (.cells #[.int .i64 x.fr, .int .i64 (x.tt - n)] 145))
              have GW := Lib.hid (hG.out.below hW.out)
              have HN := Lib.hid (World.news_of_block (heap_alloc_new (wr.alloc (.cells #[.int .i64 x.fr, .int .i64 x.tt] 145)) (.cells #[.int .i64 x.fr, .int .i64 (x.tt - n)] 145)))
              go_wp2_with (at_builtin; refine wpList_append_lies _ rfl _ _ _ rfl w.heap.size 145 i0 _ 2 16 Tryz.underlying111 HI.out hz0 (by assumption) hz2 rfl (by omega) u5 acc.length (acc.flatMap WindowD.cells) rfl GW.out.1 ⟨wr.heap.size + 1, 0, none⟩ 1 1 (WindowD.cells ⟨x.fr, x.tt - n⟩) (by first | rfl | simp) rfl (by simpa using HN.out) (window_one _) (by omega) (by unfold maxLen; omega) (by omega) (by simp; omega) _ rfl ?_; intro g4 cap4 w4 hown4 hgrow4 hor4 hlt4; have GX := Lib.hid (GW.out.next hown4 hgrow4); clear hown4 hgrow4 hor4 hlt4)
              go_roundw
              case rel =>
                refine ⟨k + 1, by omega, by go_num, Lib.hid ?_⟩
                rw [EF.out, HA.out]
                exact GX.out
              case measure => simp [intOf]; omega
            · have EF := Lib.hid (shrW_no HX.out hlong)
              go_wp2
              go_roundw
              case rel =>
                refine ⟨k + 1, by omega, by go_num, Lib.hid ?_⟩
                rw [EF.out]
                exact hG.out.below hW1.out
              case measure => simp [intOf]; omega
set_option maxHeartbeats 8000000 in
theorem specShrinkWindows (v : Value) (l : List WindowD) (n : Int) (w : World) (h : SlWindow w v l) :
    Calls Tryz.prog 112 #[v, .int .i64 n] w (NewWindow (shrinkL l n) w) := by
  have H := Lib.hid h
  cases hok : winB l with
  | false =>
    have E := Lib.hid (shrinkL_bad (n := n) hok)
    have HOK := Lib.hid hok
    obtain ⟨A, c, rfl⟩ := h.at
    clear hok h
    go_enter Tryz.func112, Tryz.ntmps112
    go_wp2_with fail
    refine (specWindowsOk _ l _ H.out).mono ?_
    rw [HOK.out]
    rintro e w1 ⟨rfl, hb1⟩
    have B1 := Lib.hid hb1
    clear hb1
    go_wp2
    go_ret
    exact NewWindow.empty B1.out E.out
  | true =>
    cases hm : inB n 0 2880 with
    | false =>
      have E := Lib.hid (shrinkL_off (l := l) hm)
      have HOK := Lib.hid hok
      have HM := Lib.hid hm
      obtain ⟨A, c, rfl⟩ := h.at
      clear hok h hm
      go_enter Tryz.func112, Tryz.ntmps112
      go_wp2_with fail
      refine (specWindowsOk _ l _ H.out).mono ?_
      rw [HOK.out]
      rintro e w1 ⟨rfl, hb1⟩
      have B1 := Lib.hid hb1
      have hz1 := hb1.size
      clear hb1
      go_wp2_with fail
      refine (l01In_any _ _ _ _).mono ?_
      rw [HM.out]
      rintro e w2 ⟨rfl, rfl⟩
      go_wp2
      go_ret
      exact NewWindow.empty B1.out E.out
    | true =>
      have HF := Lib.hid (winB_true hok)
      have HOK := Lib.hid hok
      have HM := Lib.hid hm
      have hn : 0 ≤ n ∧ n ≤ 2880 := of_decide_eq_true hm
      obtain ⟨hn0, hn1⟩ := hn
      have E := Lib.hid (shrinkL_ok hok hm)
      clear hok hm
      obtain ⟨i0, hin, hz0, hzs, hz2⟩ := info_parts info_window
      have HI := Lib.hid hin
      clear hin
      obtain ⟨hl, h⟩ := h
      rcases h with ⟨rfl, A, c, rfl⟩ | ⟨g, o, c, rfl, hp, hcap, hc⟩
      · go_enter Tryz.func112, Tryz.ntmps112
        go_wp2_with fail
        refine (specWindowsOk _ [] _ H.out).mono ?_
        rw [HOK.out]
        rintro e w1 ⟨rfl, hb1⟩
        have B1 := Lib.hid hb1
        have hz1 := hb1.size
        clear hb1
        go_wp2_with fail
        refine (l01In_any _ _ _ _).mono ?_
        rw [HM.out]
        rintro e w2 ⟨rfl, rfl⟩
        go_wp2
        have G0 := Lib.hid (GathW.made B1.out)
        refine wp_loop_rounds 1 ?_
        rw [rounds_succ]
        go_wp2
        go_ret
        exact G0.out.new E.out
      · have HC := Lib.hid hc
        clear hc
        go_enter Tryz.func112, Tryz.ntmps112
        go_wp2_with fail
        refine (specWindowsOk _ l _ H.out).mono ?_
        rw [HOK.out]
        rintro e w1 ⟨rfl, hb1⟩
        have B1 := Lib.hid hb1
        have hz1 := hb1.size
        clear hb1
        go_wp2_with fail
        refine (l01In_any _ _ _ _).mono ?_
        rw [HM.out]
        rintro e w2 ⟨rfl, rfl⟩
        go_wp2
        have G0 := Lib.hid (GathW.made B1.out)
        go_loopw [5, 19] (fun s i wr => ∃ k : Nat, k ≤ l.length ∧ i = .int .i64 k ∧ Hid (GathW w s (shrW n (l.take k)) wr)) (fun _ i _ => l.length - (intOf i).toNat)
        case atStart => exact ⟨0, Nat.zero_le _, rfl, by simpa [shrW] using G0⟩
        case round =>
          obtain ⟨k, hk, rfl, hG⟩ := hrel
          by_cases hlt : k < l.length
          rotate_left
          · obtain rfl : k = l.length := by omega
            go_wp2
            go_ret
            exact hG.out.new E.out
          · obtain ⟨x, hx⟩ : ∃ x, l[k]? = some x := ⟨_, List.getElem?_eq_getElem hlt⟩
            obtain ⟨p0, p1⟩ := SlWindow.cells HC.out k x hx
            have hg : g < w.heap.size := World.block_lt_of_cell? w ⟨g, o + k * 2, none⟩ p0
            have a0 := (hG.out.2.cell (p := ⟨g, o + k * 2, none⟩) hg).trans p0
            have a1 := (hG.out.2.cell (p := ⟨g, o + k * 2 + 1, none⟩) hg).trans p1
            have HX := Lib.hid hx
            obtain ⟨t0, t1, t2⟩ := HF.out.time hlt hx
            have hsz := hG.out.size
            have hgr : g < wr.heap.size := by omega
            clear p0 p1 hx
            have hW1 := Lib.hid (Joins.below_alloc1 wr (.cells #[.int .i64 x.fr, .int .i64 x.tt] 145))
            by_cases hlong : n ≤ x.tt - x.fr
            · have EF := Lib.hid (shrW_yes HX.out hlong)
              have hal := shrW_len n (l.take k)
              rw [List.length_take] at hal
              obtain ⟨acc, hacc⟩ : ∃ acc, shrW n (l.take k) = acc := ⟨_, rfl⟩
              rw [hacc] at hG hal
              have HA := Lib.hid hacc
              clear hacc
              have hW := Lib.hid (Joins.below_alloc2 wr (.cells #[.int .i64 x.fr, .int .i64 x.tt] 145) (.cells #[.int .i64 x.fr, .int .i64 (x.tt - n)] 145))
              have GW := Lib.hid (hG.out.below hW.out)
              have HN := Lib.hid (World.news_of_block (heap_alloc_new (wr.alloc (.cells #[.int .i64 x.fr, .int .i64 x.tt] 145)) (.cells #[.int .i64 x.fr, .int .i64 (x.tt - n)] 145)))
              go_wp2_with (at_builtin; refine wpList_append_lies _ rfl _ _ _ rfl w.heap.size 145 i0 _ 2 16 Tryz.underlying111 HI.out hz0 (by assumption) hz2 rfl (by omega) u5 acc.length (acc.flatMap WindowD.cells) rfl GW.out.1 ⟨wr.heap.size + 1, 0, none⟩ 1 1 (WindowD.cells ⟨x.fr, x.tt - n⟩) (by first | rfl | simp) rfl (by simpa using HN.out) (window_one _) (by omega) (by unfold maxLen; omega) (by omega) (by simp; omega) _ rfl ?_; intro g4 cap4 w4 hown4 hgrow4 hor4 hlt4; have GX := Lib.hid (GW.out.next hown4 hgrow4); clear hown4 hgrow4 hor4 hlt4)
              go_roundw
              case rel =>
                refine ⟨k + 1, by omega, by go_num, Lib.hid ?_⟩
                rw [EF.out, HA.out]
                exact GX.out
              case measure => simp [intOf]; omega
            · have EF := Lib.hid (shrW_no HX.out hlong)
              go_wp2
              go_roundw
              case rel =>
                refine ⟨k + 1, by omega, by go_num, Lib.hid ?_⟩
                rw [EF.out]
                exact hG.out.below hW1.out
              case measure => simp [intOf]; omega
end Go.Proofs.YtooeikimoheecaaGreat
namespace Go.Proofs.YtooeikimoheecaaGreat
open Go.RowKit Go.Shelf
set_option maxRecDepth 100000
attribute [local go_sem] Oper.semAt_some
/-- The iterator value 'func g over lb' hands xs over, one by one, to every loop whose rounds keep Kp. -/
def SeqW (g : Nat) (lb : Array Value) (Kp : World → World → Prop) (N : Nat) (xs : List WindowD) (w : World) : Prop :=
  ∀ n, 1 ≤ n → SeqStopsK Fence.wide n Tryz.prog g lb (fun x : WindowD => #[.agg #[.int .i64 x.fr, .int .i64 x.tt]]) Kp (fun ys => ys = xs) (fun _ => True) N w
theorem SeqW.later {g : Nat} {lb : Array Value} {Kp : World → World → Prop} {N : Nat} {xs : List WindowD} {w w' : World} (h : SeqW g lb Kp N xs w) (hb : Below w.heap.size w w') : SeqW g lb Kp N xs w' :=
  fun n hn l J Jx W hW hJ hJx hY h0 => h n hn l J Jx W (hb.trans (hW.mono hb.size)) hJ hJx hY h0
theorem blk_own {β : Type} (B : Nat) (t : TypeId) (cs : β → Array Value) : Own (fun s W => Blk W B (cs s) t) := fun s X Y row hs hg hrow =>
  Blk.grown hs hg (fun e' => by obtain ⟨o, ho, hc⟩ := hrow B e'.symm; rw [show X.heap[B]? = _ from hs] at ho; cases ho; cases hc)
end Go.Proofs.YtooeikimoheecaaGreat
