
/- What ExactFreeTimes and BerthsLaw rests on, part 12: contracts and mathematics. -/
import Derived.Test.YtghjfcnboocmjaaBc10
import Derived.Test.YtghjfcnboocmjaaBc9
import Derived.Test.YtghjfcnboocmjaaBc4
import Derived.Deep.RegionHeld3
import Derived.Deep.DeepCutAuto
import Derived.BigRegionIn
import Derived.Sort.CutIn
import Derived.Test.YtghjfcnboocmjaaBc0
import Derived.OrdersHeld
import Derived.Lib.Hide
namespace Go.Proofs.Ytghjfcnboocmjaa
open Go.RowKit
set_option maxRecDepth 100000
section
variable {ops : Array Oper} {o : Oper} {a : Act} {w : World} {K : Act → World → Prop} {Q : Exit → Act → World → Prop} {E : Prop}
end
/-- Stays of one's own, over what has come since wd. -/
abbrev LivS (wd x : World) (L : List (Nat × Value × List StayD)) : Prop := LivO 4 StayD.cells 33 wd x L
theorem LivS.made {wd x x' : World} {L : List (Nat × Value × List StayD)} (h : LivS wd x L) (τ : Nat) (e : x' = x.alloc (.cells #[] 33)) : LivS wd x' ((τ, .slice (some ⟨x.heap.size, 0, none⟩) 0 0, []) :: L) := by
  subst e
  exact LivO.build h stayLen τ [] (by simp)
theorem step_livS {ops : Array Oper} {o : Oper} {a : Act} {K : Act → World → Prop} {Q : Exit → Act → World → Prop} {E : Prop} {wd x : World} {L L' : List (Nat × Value × List StayD)} (h : LivS wd x L) {τ : Nat} (τ' : Nat) {v u : Value} {l m : List StayD} (hgd : o.guard = none) (s r : Operand)
    (ho : o.op = .call { callee := .builtin .append, args := #[s, r], argTypes := #[25, 25] }) (hs : a.eval s = v) (hr : a.eval r = u) (hv : (τ, v, l) ∈ L) (hu : SlStay x u m) (hb : l.length + m.length ≤ 10000000)
    (hL : ∀ q ∈ L', q ∈ L ∧ q.1 ≠ τ) (hK : ∀ v' x', LivS wd x' ((τ', v', l ++ m) :: L') → K (a.put o.dst v') x') :
    if Region.wanted o (yielded ops a.tmps) = true then Oper.wp Try.prog o a x K Q else E := by
  obtain ⟨i0, hi, hz0, hz1, hz2⟩ := info_parts info_stay
  exact step_livO h stayLen stay_one τ' hgd s r ho hs hr Try.underlying25 hi hz0 hz1 hz2 rfl (by omega) (by omega) hv hu hb hL hK
end Go.Proofs.Ytghjfcnboocmjaa
namespace Go.Proofs.Ytghjfcnboocmjaa
open Go.RowKit Go.Shelf
set_option maxRecDepth 100000
attribute [local go_sem] Oper.semAt_some
/-- The gaps so far, and the first minute behind the last window. -/
def gstep (s : List WindowD × Int) (x : WindowD) : List WindowD × Int := (if s.2 < x.fr then s.1 ++ [⟨s.2, x.fr - 1⟩] else s.1, x.tt + 1)
def gfold (l : List WindowD) : List WindowD × Int := l.foldl gstep ([], 0)
def otherW (l : List WindowD) : List WindowD := if (gfold l).2 ≤ 2880 then (gfold l).1 ++ [⟨(gfold l).2, 2880⟩] else (gfold l).1
def otherL (l : List WindowD) : List WindowD := if winB l = true then otherW l else []
theorem gfold_next {l : List WindowD} {k : Nat} {x : WindowD} (h : l[k]? = some x) : gfold (l.take (k + 1)) = gstep (gfold (l.take k)) x := by
  unfold gfold
  rw [take_snoc' l k x h, List.foldl_append]
  rfl
theorem gfold_yes {l : List WindowD} {k : Nat} {x : WindowD} (h : l[k]? = some x) (hp : (gfold (l.take k)).2 < x.fr) : gfold (l.take (k + 1)) = ((gfold (l.take k)).1 ++ [⟨(gfold (l.take k)).2, x.fr - 1⟩], x.tt + 1) := by
  rw [gfold_next h]; unfold gstep; rw [if_pos hp]
theorem gfold_no {l : List WindowD} {k : Nat} {x : WindowD} (h : l[k]? = some x) (hp : ¬ (gfold (l.take k)).2 < x.fr) : gfold (l.take (k + 1)) = ((gfold (l.take k)).1, x.tt + 1) := by
  rw [gfold_next h]; unfold gstep; rw [if_neg hp]
theorem gfold_len (l : List WindowD) : ∀ k, (gfold (l.take k)).1.length ≤ k := by
  intro k
  induction k with
  | zero => simp [gfold]
  | succ k ih =>
    cases hx : l[k]? with
    | none =>
      have : l.take (k + 1) = l.take k := by
        have := List.getElem?_eq_none_iff.1 hx
        rw [List.take_of_length_le (by omega), List.take_of_length_le (by omega)]
      rw [this]; omega
    | some x =>
      rw [gfold_next hx]; unfold gstep
      split
      · simp; omega
      · simp only; omega
theorem gfold_at {l : List WindowD} (h : FirstW l l.length) : ∀ k, k ≤ l.length → 0 ≤ (gfold (l.take k)).2 ∧ (gfold (l.take k)).2 ≤ 2881 := by
  intro k hk
  cases k with
  | zero => simp [gfold]
  | succ k =>
    obtain ⟨x, hx⟩ : ∃ x, l[k]? = some x := ⟨_, List.getElem?_eq_getElem (by omega)⟩
    obtain ⟨t0, t1, t2⟩ := h.time (by omega) hx
    rw [gfold_next hx]
    unfold gstep
    simp only
    omega
theorem otherL_bad {l : List WindowD} (h : winB l = false) : otherL l = [] := by unfold otherL; rw [h]; simp
theorem otherL_ok {l : List WindowD} (h : winB l = true) : otherL l = otherW l := by unfold otherL; rw [h]; simp
theorem otherW_len (l : List WindowD) : (otherW l).length ≤ l.length + 1 := by
  have h := gfold_len l l.length
  rw [List.take_length] at h
  unfold otherW; split
  · simp; omega
  · omega
theorem otherL_len (l : List WindowD) : (otherL l).length ≤ l.length + 1 := by
  unfold otherL; split
  · exact otherW_len l
  · simp
theorem otherW_yes {l : List WindowD} (h : (gfold (l.take l.length)).2 ≤ 2880) : otherW l = (gfold (l.take l.length)).1 ++ [⟨(gfold (l.take l.length)).2, 2880⟩] := by
  unfold otherW; rw [List.take_length] at *; rw [if_pos h]
theorem otherW_no {l : List WindowD} (h : ¬ (gfold (l.take l.length)).2 ≤ 2880) : otherW l = (gfold (l.take l.length)).1 := by
  unfold otherW; rw [List.take_length] at *; rw [if_neg h]
set_option maxHeartbeats 8000000 in
theorem between1 (v : Value) (l : List WindowD) (Bn : Nat) (w : World) (h : SlWindow w v l) (hBn : Bn < w.heap.size) (hc0 : w.cell? ⟨Bn, 0, none⟩ = some v) (hok : winB l = true) :
    SeqW 106 #[.pointer (some ⟨Bn, 0, none⟩)] (Kp2 86 w.heap.size) (l.length + 1) (otherW l) w := by
  intro n hn lp J Jx W hW hJ hJx hY h0
  have hcW : W.cell? ⟨Bn, 0, none⟩ = some v := (hW.cell (p := ⟨Bn, 0, none⟩) hBn).trans hc0
  have HJ := Lib.hid hJ
  have HY := Lib.hid hY
  have H0 := Lib.hid h0
  have HW := Lib.hid hW
  have HF := Lib.hid (winB_true hok)
  clear hJ hJx hY h0 hW hc0 hok
  change CallsIn Fence.wide n Try.prog 106 #[.func (.yield lp) #[] #[], .pointer (some ⟨Bn, 0, none⟩)] W _
  refine callsIn_of_wp Try.func106 rfl trivial ?_ rfl
  simp only [Try.ntmps106, List.size_toArray, List.length_cons, List.length_nil, Nat.reduceAdd, Nat.reduceSub, Array.replicate_succ, Array.replicate_zero, List.push_toArray, List.append_toArray, List.nil_append, List.cons_append]
  obtain ⟨hl, h⟩ := h
  rcases h with ⟨rfl, A, c, rfl⟩ | ⟨g, o, c, rfl, hp, hcap, hc⟩
  · obtain ⟨fn, tmps, assign, body, hy, hR⟩ := HY.out [] ⟨0, 2880⟩ W H0.out (by simp)
    have E := Lib.hid (otherW_yes (l := []) (by decide))
    have HR := Lib.hid hR
    clear hR
    dsimp only at hy
    gi_wp2
    gi_loopw [3, 8] (fun f i wr => i = .int .i64 0 ∧ f = .int .i64 0 ∧ wr = W) (fun _ _ _ => 0)
    case atStart => exact ⟨rfl, rfl, rfl⟩
    case round =>
      obtain ⟨rfl, rfl, rfl⟩ := hrel
      gi_wp2
      refine HR.out.mono ?_
      rintro e W3 (⟨rfl, hJ3, hk3⟩ | ⟨rfl, hJx3⟩)
      · gi_wp2
        go_end0
        exact ⟨⟨_, rfl⟩, .inl ⟨_, E.out.symm, hJ3⟩⟩
      · gi_wp2
        go_end0
        exact ⟨⟨_, rfl⟩, .inr ⟨_, trivial, hJx3⟩⟩
  · have HC := Lib.hid hc
    clear hc
    gi_wp2
    gi_loopw [3, 8] (fun f i wr => ∃ (k : Nat) (acc : List WindowD) (m : Int), k ≤ l.length ∧ i = .int .i64 k ∧ f = .int .i64 m ∧ Hid (gfold (l.take k) = (acc, m)) ∧ Hid (J acc wr) ∧ Hid (Below w.heap.size w wr) ∧ w.heap.size ≤ wr.heap.size) (fun _ i _ => l.length - (intOf i).toNat)
    case atStart => exact ⟨0, [], 0, Nat.zero_le _, rfl, rfl, Lib.hid rfl, H0, HW, HW.out.size⟩
    case round =>
      obtain ⟨k, acc, m, hk, rfl, rfl, hE, hJs, hb, hsz⟩ := hrel
      obtain ⟨f0, f1⟩ := gfold_at HF.out k hk
      have hgl := gfold_len l k
      rw [hE.out] at f0 f1 hgl
      dsimp only at f0 f1 hgl
      by_cases hlt : k < l.length
      rotate_left
      · obtain rfl : k = l.length := by omega
        by_cases hend : m ≤ 2880
        · have E := Lib.hid (otherW_yes (l := l) (by rw [hE.out]; exact hend))
          rw [hE.out] at E
          obtain ⟨fn, tmps, assign, body, hy, hR⟩ := HY.out _ ⟨m, 2880⟩ wr hJs.out (by omega)
          have HR := Lib.hid hR
          clear hR
          dsimp only at hy
          gi_wp2
          refine HR.out.mono ?_
          rintro e W3 (⟨rfl, hJ3, hk3⟩ | ⟨rfl, hJx3⟩)
          · gi_wp2
            go_end0
            exact ⟨⟨_, rfl⟩, .inl ⟨_, E.out.symm, hJ3⟩⟩
          · gi_wp2
            go_end0
            exact ⟨⟨_, rfl⟩, .inr ⟨_, trivial, hJx3⟩⟩
        · have E := Lib.hid (otherW_no (l := l) (by rw [hE.out]; exact hend))
          rw [hE.out] at E
          gi_wp2
          go_end0
          exact ⟨⟨_, rfl⟩, .inl (by rw [E.out]; exact hJs.out)⟩
      · obtain ⟨x, hx⟩ : ∃ x, l[k]? = some x := ⟨_, List.getElem?_eq_getElem hlt⟩
        obtain ⟨p0, p1⟩ := SlWindow.cells HC.out k x hx
        have hg : g < w.heap.size := World.block_lt_of_cell? w ⟨g, o + k * 2, none⟩ p0
        have a0 := (hb.out.cell (p := ⟨g, o + k * 2, none⟩) hg).trans p0
        have a1 := (hb.out.cell (p := ⟨g, o + k * 2 + 1, none⟩) hg).trans p1
        have HX := Lib.hid hx
        obtain ⟨t0, t1, t2⟩ := HF.out.time hlt hx
        have hgr : g < wr.heap.size := by omega
        clear p0 p1 hx
        have hB1 := Lib.hid (hb.out.alloc hsz (.cells #[.int .i64 x.fr, .int .i64 x.tt] 86))
        have J1 := Lib.hid (HJ.out _ _ (wr.alloc (.cells #[.int .i64 x.fr, .int .i64 x.tt] 86)) none hJs.out (World.grownBy_alloc _ _ _) (fun r e => by cases e))
        by_cases hgap : m < x.fr
        · have EF := Lib.hid (gfold_yes HX.out (by rw [hE.out]; exact hgap))
          rw [hE.out] at EF
          obtain ⟨fn, tmps, assign, body, hy, hR⟩ := HY.out _ ⟨m, x.fr - 1⟩ _ J1.out (by omega)
          have HR := Lib.hid hR
          clear hR
          dsimp only at hy
          gi_wp2
          refine HR.out.mono ?_
          rintro e W3 (⟨rfl, hJ3, hk3⟩ | ⟨rfl, hJx3⟩)
          · have HB3 := Lib.hid (hB1.out.trans hk3.1)
            have hs3 : w.heap.size ≤ W3.heap.size := HB3.out.size
            have bX := hk3.blk (Blk.new wr #[.int .i64 x.fr, .int .i64 x.tt] 86)
            have c1 : W3.cell? ⟨wr.heap.size, 1, none⟩ = some (.int .i64 x.tt) := bX.cell 1
            have H3 := Lib.hid hJ3
            clear hJ3 hk3 bX
            gi_wp2
            go_roundw
            case rel => exact ⟨k + 1, _, _, by omega, by go_num, rfl, EF, H3, HB3, hs3⟩
            case measure => simp [intOf]; omega
          · gi_wp2
            refine bodyPost_ret (results_none rfl _ _ _) rfl ?_
            exact ⟨⟨_, rfl⟩, .inr ⟨_, trivial, hJx3⟩⟩
        · have EF := Lib.hid (gfold_no HX.out (by rw [hE.out]; exact hgap))
          rw [hE.out] at EF
          gi_wp2
          refine ⟨fun _ h => (by cases h), ?_⟩
          gi_wp2
          go_roundw
          case rel => exact ⟨k + 1, _, _, by omega, by go_num, rfl, EF, J1, hB1, by simp; omega⟩
          case measure => simp [intOf]; omega
theorem between (A : Option Addr) (n c : Nat) (w : World) :
    Calls Try.prog 89 #[.slice A n c] w fun e w' => e = .returned (.func (.func 106) #[] #[.pointer (some ⟨w.heap.size, 0, none⟩)]) ∧ w' = w.alloc (.cells #[.slice A n c] 35) := by
  go_enter Try.func89, Try.ntmps89
  go_wp2
  go_ret
  exact ⟨rfl, rfl⟩
set_option maxHeartbeats 4000000 in
theorem implOtherWindows (v : Value) (l : List WindowD) (w : World) (h : SlWindow w v l) :
    Calls Try.prog 60 #[v] w (NewWindow (otherL l) w) := by
  have H := Lib.hid h
  have hl := h.1
  obtain ⟨A, c, rfl⟩ := h.at
  cases hok : winB l with
  | false =>
    have E := Lib.hid (otherL_bad hok)
    have HOK := Lib.hid hok
    clear hok h
    go_enter Try.func60, Try.ntmps60
    go_wp2_with fail
    refine (implWindowsOk _ l _ H.out).mono ?_
    rw [HOK.out]
    rintro e w1 ⟨rfl, hb1⟩
    have B1 := Lib.hid hb1
    clear hb1
    go_wp2
    go_ret
    exact NewWindow.empty B1.out E.out
  | true =>
    have E := Lib.hid (otherL_ok hok)
    have HOK := Lib.hid hok
    clear hok h
    go_enter Try.func60, Try.ntmps60
    go_wp2_with fail
    refine (implWindowsOk _ l _ H.out).mono ?_
    rw [HOK.out]
    rintro e w1 ⟨rfl, hb1⟩
    have B1 := Lib.hid hb1
    clear hb1
    go_wp2_with fail
    refine (between _ _ _ _).mono ?_
    rintro e w2 ⟨rfl, hw2⟩
    have hal : Below w1.heap.size w1 w2 := by rw [hw2]; exact Joins.below_alloc1 w1 _
    have bx : Blk w2 w1.heap.size #[.slice A l.length c] 35 := by rw [hw2]; exact Blk.new _ _ _
    have B2 := Lib.hid (B1.out.trans (hal.mono B1.out.size))
    have HS := Lib.hid (between1 _ l w1.heap.size w2 (H.out.below B2.out) bx.lt (bx.cell 0) HOK.out)
    have CC := Lib.hid (collect_any _ _ _ _ _ _ HS.out (Nat.le_refl _) (enters_of Try.func106 (by kernel_rfl) rfl) (by omega))
    clear hw2 hal bx HS
    go_wp2_with fail
    refine CC.out.mono ?_
    intro e w3 hnew
    obtain ⟨v3, rfl, h1, h2⟩ := hnew
    have H1 := Lib.hid h1
    have H2 := Lib.hid h2
    obtain ⟨A3, c3, rfl⟩ := own_form h1
    clear h1 h2
    go_wp2
    go_ret
    rw [E.out]
    exact ⟨_, rfl, own_lo H1.out B2.out.size, B2.out.trans (H2.out.mono B2.out.size)⟩
set_option maxHeartbeats 8000000 in
theorem specOtherWindows (v : Value) (l : List WindowD) (w : World) (h : SlWindow w v l) :
    Calls Try.prog 73 #[v] w (NewWindow (otherL l) w) := by
  have H := Lib.hid h
  cases hok : winB l with
  | false =>
    have E := Lib.hid (otherL_bad hok)
    have HOK := Lib.hid hok
    obtain ⟨A, c, rfl⟩ := h.at
    clear hok h
    go_enter Try.func73, Try.ntmps73
    go_wp2_with fail
    refine (specWindowsOk _ l _ H.out).mono ?_
    rw [HOK.out]
    rintro e w1 ⟨rfl, hb1⟩
    have B1 := Lib.hid hb1
    clear hb1
    go_wp2
    go_ret
    exact NewWindow.empty B1.out E.out
  | true =>
    have HF := Lib.hid (winB_true hok)
    have HOK := Lib.hid hok
    have E := Lib.hid (otherL_ok hok)
    clear hok
    obtain ⟨i0, hin, hz0, hzs, hz2⟩ := info_parts info_window
    have HI := Lib.hid hin
    clear hin
    obtain ⟨hl, h⟩ := h
    rcases h with ⟨rfl, A, c, rfl⟩ | ⟨g, o, c, rfl, hp, hcap, hc⟩
    · have E2 := Lib.hid (otherW_yes (l := []) (by decide))
      go_enter Try.func73, Try.ntmps73
      go_wp2_with fail
      refine (specWindowsOk _ [] _ H.out).mono ?_
      rw [HOK.out]
      rintro e w1 ⟨rfl, hb1⟩
      have B1 := Lib.hid hb1
      have hz1 := hb1.size
      clear hb1
      go_wp2
      have G0 := Lib.hid (GathW.made B1.out)
      refine wp_loop_rounds 1 ?_
      rw [rounds_succ]
      obtain ⟨wr, hwr⟩ : ∃ wr, wr = w1.alloc (.cells #[] 86) := ⟨_, rfl⟩
      have hszr : w1.heap.size ≤ wr.heap.size := by rw [hwr]; simp
      rw [← hwr] at G0 ⊢
      clear hwr
      have hW := Lib.hid (Joins.below_alloc1 wr (.cells #[.int .i64 0, .int .i64 2880] 86))
      have GW := Lib.hid (G0.out.below hW.out)
      have HN := Lib.hid (World.news_of_block (heap_alloc_new wr (.cells #[.int .i64 0, .int .i64 2880] 86)))
      go_wp2_with (at_builtin; (refine wpList_append_lies _ rfl _ _ _ rfl w.heap.size 86 i0 _ 2 16 Try.underlying35 HI.out hz0 (by assumption) hz2 rfl (by omega) _ ([] : List WindowD).length (([] : List WindowD).flatMap WindowD.cells) rfl GW.out.1 ⟨wr.heap.size, 0, none⟩ 1 1 (WindowD.cells ⟨0, 2880⟩) (by first | rfl | simp) rfl (by simpa using HN.out) (window_one _) (by omega) (by unfold maxLen; omega) (by omega) (by simp; omega) _ rfl ?_; intro g4 cap4 w4 hown4 hgrow4 hor4 hlt4; have GX := Lib.hid (GW.out.next (x := ⟨0, 2880⟩) hown4 hgrow4); clear hown4 hgrow4 hor4 hlt4))
      go_ret
      exact GX.out.new (E.out.trans E2.out)
    · have HC := Lib.hid hc
      clear hc
      go_enter Try.func73, Try.ntmps73
      go_wp2_with fail
      refine (specWindowsOk _ l _ H.out).mono ?_
      rw [HOK.out]
      rintro e w1 ⟨rfl, hb1⟩
      have B1 := Lib.hid hb1
      have hz1 := hb1.size
      clear hb1
      go_wp2
      have G0 := Lib.hid (GathW.made B1.out)
      go_loopw [3, 4, 13] (fun s f i wr => ∃ (k : Nat) (acc : List WindowD) (m : Int), k ≤ l.length ∧ i = .int .i64 k ∧ f = .int .i64 m ∧ Hid (gfold (l.take k) = (acc, m)) ∧ Hid (GathW w s acc wr)) (fun _ _ i _ => l.length - (intOf i).toNat)
      case atStart => exact ⟨0, [], 0, Nat.zero_le _, rfl, rfl, Lib.hid rfl, G0⟩
      case round =>
        obtain ⟨k, acc, m, hk, rfl, rfl, hE, hG⟩ := hrel
        obtain ⟨f0, f1⟩ := gfold_at HF.out k hk
        have hgl := gfold_len l k
        rw [hE.out] at f0 f1 hgl
        dsimp only at f0 f1 hgl
        have hsz := hG.out.size
        by_cases hlt : k < l.length
        rotate_left
        · obtain rfl : k = l.length := by omega
          by_cases hend : m ≤ 2880
          · have E2 := Lib.hid (otherW_yes (l := l) (by rw [hE.out]; exact hend))
            rw [hE.out] at E2
            have hW := Lib.hid (Joins.below_alloc1 wr (.cells #[.int .i64 m, .int .i64 2880] 86))
            have GW := Lib.hid (hG.out.below hW.out)
            have HN := Lib.hid (World.news_of_block (heap_alloc_new wr (.cells #[.int .i64 m, .int .i64 2880] 86)))
            go_wp2_with (at_builtin; refine wpList_append_lies _ rfl _ _ _ rfl w.heap.size 86 i0 _ 2 16 Try.underlying35 HI.out hz0 (by assumption) hz2 rfl (by omega) u3 acc.length (acc.flatMap WindowD.cells) rfl GW.out.1 ⟨wr.heap.size, 0, none⟩ 1 1 (WindowD.cells ⟨m, 2880⟩) (by first | rfl | simp) rfl (by simpa using HN.out) (window_one _) (by omega) (by unfold maxLen; omega) (by omega) (by simp; omega) _ rfl ?_; intro g4 cap4 w4 hown4 hgrow4 hor4 hlt4; have GX := Lib.hid (GW.out.next hown4 hgrow4); clear hown4 hgrow4 hor4 hlt4)
            go_ret
            exact GX.out.new (E.out.trans E2.out)
          · have E2 := Lib.hid (otherW_no (l := l) (by rw [hE.out]; exact hend))
            rw [hE.out] at E2
            go_wp2
            go_ret
            exact hG.out.new (E.out.trans E2.out)
        · obtain ⟨x, hx⟩ : ∃ x, l[k]? = some x := ⟨_, List.getElem?_eq_getElem hlt⟩
          obtain ⟨p0, p1⟩ := SlWindow.cells HC.out k x hx
          have hg : g < w.heap.size := World.block_lt_of_cell? w ⟨g, o + k * 2, none⟩ p0
          have a0 := (hG.out.2.cell (p := ⟨g, o + k * 2, none⟩) hg).trans p0
          have a1 := (hG.out.2.cell (p := ⟨g, o + k * 2 + 1, none⟩) hg).trans p1
          have HX := Lib.hid hx
          obtain ⟨t0, t1, t2⟩ := HF.out.time hlt hx
          have hgr : g < wr.heap.size := by omega
          clear p0 p1 hx
          have hW1 := Lib.hid (Joins.below_alloc1 wr (.cells #[.int .i64 x.fr, .int .i64 x.tt] 86))
          by_cases hgap : m < x.fr
          · have EF := Lib.hid (gfold_yes HX.out (by rw [hE.out]; exact hgap))
            rw [hE.out] at EF
            have hW := Lib.hid (Joins.below_alloc2 wr (.cells #[.int .i64 x.fr, .int .i64 x.tt] 86) (.cells #[.int .i64 m, .int .i64 (x.fr - 1)] 86))
            have GW := Lib.hid (hG.out.below hW.out)
            have HN := Lib.hid (World.news_of_block (heap_alloc_new (wr.alloc (.cells #[.int .i64 x.fr, .int .i64 x.tt] 86)) (.cells #[.int .i64 m, .int .i64 (x.fr - 1)] 86)))
            have BX := Lib.hid (((Blk.new wr #[.int .i64 x.fr, .int .i64 x.tt] 86).below (Joins.below_alloc1 _ (.cells #[.int .i64 m, .int .i64 (x.fr - 1)] 86))).cell 1)
            have HNE := Lib.hid (show some wr.heap.size ≠ u3.ownBlock from fun e => by have := (World.ownsRow.lt hG.out.1 _ e.symm).2; omega)
            go_wp2_with (at_builtin; refine wpList_append_lies _ rfl _ _ _ rfl w.heap.size 86 i0 _ 2 16 Try.underlying35 HI.out hz0 (by assumption) hz2 rfl (by omega) u3 acc.length (acc.flatMap WindowD.cells) rfl GW.out.1 ⟨wr.heap.size + 1, 0, none⟩ 1 1 (WindowD.cells ⟨m, x.fr - 1⟩) (by first | rfl | simp) rfl (by simpa using HN.out) (window_one _) (by omega) (by unfold maxLen; omega) (by omega) (by simp; omega) _ rfl ?_; intro g4 cap4 w4 hown4 hgrow4 hor4 hlt4; have c4 : w4.cell? ⟨wr.heap.size, 1, none⟩ = some (.int .i64 x.tt) := hgrow4.cell (a := ⟨wr.heap.size, 1, none⟩) BX.out HNE.out; have GX := Lib.hid (GW.out.next hown4 hgrow4); clear hown4 hgrow4 hor4 hlt4)
            go_roundw
            case rel =>
              exact ⟨k + 1, _, _, by omega, by go_num, rfl, EF, GX⟩
            case measure => simp [intOf]; omega
          · have EF := Lib.hid (gfold_no HX.out (by rw [hE.out]; exact hgap))
            rw [hE.out] at EF
            have GW := Lib.hid (hG.out.below hW1.out)
            go_wp2
            go_roundw
            case rel => exact ⟨k + 1, _, _, by omega, by go_num, rfl, EF, GW⟩
            case measure => simp [intOf]; omega
end Go.Proofs.Ytghjfcnboocmjaa
namespace Go.Proofs.Ytghjfcnboocmjaa
open Go.RowKit Go.Shelf
set_option maxRecDepth 100000
attribute [local go_sem] Oper.semAt_some
theorem SlWindow.place {w : World} {A : Option Addr} {c : Nat} {l : List WindowD} (h : SlWindow w (.slice A l.length c) l) {k : Nat} {x : WindowD} (hx : l[k]? = some x) :
    ∃ g o, A = some ⟨g, o, none⟩ ∧ g < w.heap.size ∧ w.cell? ⟨g, o + k * 2, none⟩ = some (.int .i64 x.fr) ∧ w.cell? ⟨g, o + k * 2 + 1, none⟩ = some (.int .i64 x.tt) := by
  obtain ⟨hl, h⟩ := h
  rcases h with ⟨rfl, _⟩ | ⟨g, o, c', e, hp, hcap, hc⟩
  · simp at hx
  · injection e with e1 _ _
    obtain ⟨p0, p1⟩ := SlWindow.cells hc k x hx
    exact ⟨g, o, e1, World.block_lt_of_cell? w ⟨g, o + k * 2, none⟩ p0, p0, p1⟩
end Go.Proofs.Ytghjfcnboocmjaa
