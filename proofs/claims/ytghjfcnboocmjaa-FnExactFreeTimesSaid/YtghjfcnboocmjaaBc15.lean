
/- What ExactFreeTimes and BerthsLaw rests on, part 15: contracts and mathematics. -/
import Derived.Test.YtghjfcnboocmjaaBc12
import Derived.Test.YtghjfcnboocmjaaBc13
import Derived.Test.YtghjfcnboocmjaaBc14
namespace Go.Proofs.Ytghjfcnboocmjaa
open Go.RowKit Go.Shelf
set_option maxRecDepth 100000
theorem WOk.step {l : List WindowD} (h : WOk l) : ∀ i (hi : i < l.length), 2 * (i : Int) ≤ (l[i]).fr := by
  intro i
  induction i with
  | zero => intro hi; have := h.1 l[0] (List.getElem_mem hi); omega
  | succ i ih =>
    intro hi
    have h1 := ih (by omega)
    have h2 := (List.pairwise_iff_getElem.1 h.2) i (i + 1) (by omega) hi (by omega)
    have h3 := h.1 l[i] (List.getElem_mem (by omega))
    omega
theorem WOk.len {l : List WindowD} (h : WOk l) : l.length ≤ 1441 := by
  rcases Nat.lt_or_ge 1441 l.length with hlt | hge
  · have h1 := h.step 1441 hlt
    have h2 := h.1 l[1441] (List.getElem_mem hlt)
    omega
  · exact hge
end Go.Proofs.Ytghjfcnboocmjaa
namespace Go.Proofs.Ytghjfcnboocmjaa
open Go.RowKit
set_option maxRecDepth 100000
@[reducible] def boolCells (b : Bool) : List Value := [.bool b]
theorem boolLen (b : Bool) : (boolCells b).length = 1 := rfl
def SlBool : World → Value → List Bool → Prop := SlOf 1 boolCells
def markF (l : List Bool) (j : Nat) : Bool := l[j]?.getD false
theorem markF_at {l : List Bool} {k : Nat} {b : Bool} (h : l[k]? = some b) : markF l k = b := by unfold markF; rw [h]; rfl
theorem GathW.set {w wr : World} {acc : List WindowD} {y : WindowD} {g cap : Nat} (t : Int) (h : GathW w (.slice (some ⟨g, 0, none⟩) (acc.length + 1) cap) (acc ++ [y]) wr) :
    GathW w (.slice (some ⟨g, 0, none⟩) (acc.length + 1) cap) (acc ++ [⟨y.fr, t⟩]) (wr.setCell ⟨g, acc.length * 2 + 1, none⟩ (.int .i64 t)) := by
  have hrow : wr.ownsRow w.heap.size 86 2 (.slice (some ⟨g, 0, none⟩) (acc.length + 1) cap) (acc.length + 1) ((acc ++ [y]).flatMap WindowD.cells) := by
    have := h.1
    unfold OwnWindow OwnOf at this
    rw [show (acc ++ [y]).length = acc.length + 1 by simp] at this
    exact this
  have hst := (World.ownsRow.stored hrow (acc.length * 2 + 1) (.int .i64 t)).1
  rw [flat_set] at hst
  refine ⟨?_, h.2.setCell (p := ⟨g, acc.length * 2 + 1, none⟩) (World.ownsRow.lt hrow g rfl).1 _⟩
  show World.ownsRow _ _ _ _ _ _ _
  rw [show (acc ++ [(⟨y.fr, t⟩ : WindowD)]).length = acc.length + 1 by simp]
  exact hst
theorem GathW.last {w wr : World} {acc : List WindowD} {y : WindowD} {v : Value} (h : GathW w v (acc ++ [y]) wr) :
    ∃ g cap, v = .slice (some ⟨g, 0, none⟩) (acc.length + 1) cap ∧ wr.cell? ⟨g, acc.length * 2 + 1, none⟩ = some (.int .i64 y.tt) ∧ wr.frozen? ⟨g, acc.length * 2 + 1, none⟩ = false := by
  have hrow : wr.ownsRow w.heap.size 86 2 v (acc.length + 1) ((acc ++ [y]).flatMap WindowD.cells) := by
    have := h.1
    unfold OwnWindow OwnOf at this
    rw [show (acc ++ [y]).length = acc.length + 1 by simp] at this
    exact this
  obtain ⟨g, cap, rfl⟩ := ownsRow_succ hrow
  exact ⟨g, cap, rfl, (World.ownsRow.cellAt hrow (acc.length * 2 + 1) (by omega)).trans (flat_last acc y).2, World.ownsRow.frozenAt hrow _⟩
theorem GathW.nextN {w W w4 : World} {v : Value} {acc : List WindowD} {x : WindowD} {g4 cap4 n : Nat} (e : n = acc.length) (h : GathW w v acc W)
    (hown : w4.ownsRow w.heap.size 86 2 (.slice (some ⟨g4, 0, none⟩) (n + 1) cap4) (n + 1) (acc.flatMap WindowD.cells ++ x.cells)) (hgr : W.grownBy w4 v.ownBlock) :
    GathW w (.slice (some ⟨g4, 0, none⟩) (n + 1) cap4) (acc ++ [x]) w4 := by subst e; exact h.next hown hgr
theorem GathW.row {w W : World} {v : Value} {acc : List WindowD} {n : Nat} (e : n = acc.length) (h : GathW w v acc W) : W.ownsRow w.heap.size 86 2 v n (acc.flatMap WindowD.cells) := by subst e; exact h.1
set_option maxHeartbeats 8000000 in
theorem l04Of_any (v : Value) (l : List Bool) (w : World) (h : SlBool w v l) (hlen : l.length ≤ 100000) :
    Calls Try.prog 97 #[v] w (NewWindow (ofMarks (markF l) l.length) w) := by
  obtain ⟨i0, hin, hz0, hzs, hz2⟩ := info_parts info_window
  have HI := Lib.hid hin
  clear hin
  obtain ⟨hl, h⟩ := h
  rcases h with ⟨rfl, A, c, rfl⟩ | ⟨g, o, c, rfl, hp, hcap, hc⟩
  · go_enter Try.func97, Try.ntmps97
    go_wp2
    have G0 := Lib.hid (GathW.made (Below.refl w.heap.size w))
    refine wp_loop_rounds 1 ?_
    rw [rounds_succ]
    go_wp2
    go_ret
    exact G0.out.new rfl
  · have HC := Lib.hid hc
    clear hc
    go_enter Try.func97, Try.ntmps97
    go_wp2
    have G0 := Lib.hid (GathW.made (Below.refl w.heap.size w))
    go_loopw [3, 9] (fun s i wr => ∃ (k : Nat) (acc : List WindowD), k ≤ l.length ∧ i = .int .i64 k ∧ Hid (ofMarks (markF l) k = acc) ∧ Hid (GathW w s acc wr)) (fun _ i _ => l.length - (intOf i).toNat)
    case atStart => exact ⟨0, [], Nat.zero_le _, rfl, Lib.hid rfl, G0⟩
    case round =>
      obtain ⟨k, acc, hk, rfl, hE, hG⟩ := hrel
      have hal := ofMarks_len (markF l) k
      rw [hE.out] at hal
      have hsz := hG.out.size
      by_cases hlt : k < l.length
      rotate_left
      · obtain rfl : k = l.length := by omega
        go_wp2
        go_ret
        exact hG.out.new hE.out
      · obtain ⟨b, hb⟩ : ∃ b, l[k]? = some b := ⟨_, List.getElem?_eq_getElem hlt⟩
        have p0 := HC.out k b hb 0 _ rfl
        simp only [Nat.mul_one, Nat.add_zero] at p0
        have hg : g < w.heap.size := World.block_lt_of_cell? w ⟨g, o + k, none⟩ p0
        have a0 := (hG.out.2.cell (p := ⟨g, o + k, none⟩) hg).trans p0
        have hF := markF_at hb
        clear p0 hb
        cases b with
        | false =>
          have EF := Lib.hid ((ofMarks_no hF).trans hE.out)
          clear hF
          go_wp2
          go_roundw
          case rel => exact ⟨k + 1, _, by omega, by go_num, EF, hG⟩
          case measure => simp [intOf]; omega
        | true =>
          have EF := Lib.hid (ofMarks_yes hF)
          rw [hE.out] at EF
          clear hF
          rcases snoc_or acc with e | ⟨acc', y, e⟩
          · subst e
            rw [markStep_nil] at EF
            obtain ⟨A, c', rfl⟩ := hG.out.form
            have hW := Lib.hid (Joins.below_alloc1 wr (.cells #[.int .i64 k, .int .i64 k] 86))
            have GW := Lib.hid (hG.out.below hW.out)
            have HN := Lib.hid (World.news_of_block (heap_alloc_new wr (.cells #[.int .i64 k, .int .i64 k] 86)))
            go_wp2_with (at_builtin; refine wpList_append_lies _ rfl _ _ _ rfl w.heap.size 86 i0 _ 2 16 Try.underlying35 HI.out hz0 (by assumption) hz2 rfl (by omega) _ ([] : List WindowD).length (([] : List WindowD).flatMap WindowD.cells) rfl GW.out.1 ⟨wr.heap.size, 0, none⟩ 1 1 (WindowD.cells ⟨k, k⟩) (by first | rfl | simp) rfl (by simpa using HN.out) (window_one _) (by omega) (by unfold maxLen; omega) (by omega) (by simp; omega) _ rfl ?_; intro g4 cap4 w4 hown4 hgrow4 hor4 hlt4; have GX := Lib.hid (GW.out.next (x := ⟨k, k⟩) hown4 hgrow4); clear hown4 hgrow4 hor4 hlt4)
            go_roundw
            case rel => exact ⟨k + 1, _, by omega, by go_num, EF, GX⟩
            case measure => simp [intOf]; omega
          · subst e
            obtain ⟨g', cap, rfl, q1, q2⟩ := hG.out.last
            have hidx : (acc'.length : Int) < (acc'.length : Int) + 1 := by omega
            have hla : acc'.length + 1 ≤ k := by simpa using hal
            by_cases hy : y.tt = (k : Int) - 1
            · rw [markStep_join hy] at EF
              have GS := Lib.hid (hG.out.set (k : Int))
              go_wp2
              go_roundw
              case rel => exact ⟨k + 1, _, by omega, by go_num, EF, GS⟩
              case measure => simp [intOf]; omega
            · rw [markStep_apart hy] at EF
              have hW := Lib.hid (Joins.below_alloc1 wr (.cells #[.int .i64 k, .int .i64 k] 86))
              have GW := Lib.hid (hG.out.below hW.out)
              have HN := Lib.hid (World.news_of_block (heap_alloc_new wr (.cells #[.int .i64 k, .int .i64 k] 86)))
              have hel : acc'.length + 1 = (acc' ++ [y]).length := by simp
              obtain ⟨acc, hacc⟩ : ∃ acc, acc' ++ [y] = acc := ⟨_, rfl⟩
              rw [hacc] at hel GW EF
              have HEL := Lib.hid hel
              clear hacc hel
              go_wp2_with (at_builtin; refine wpList_append_lies _ rfl _ _ _ rfl w.heap.size 86 i0 _ 2 16 Try.underlying35 HI.out hz0 (by assumption) hz2 rfl (by omega) _ (acc'.length + 1) (acc.flatMap WindowD.cells) rfl (GW.out.row HEL.out) ⟨wr.heap.size, 0, none⟩ 1 1 (WindowD.cells ⟨k, k⟩) (by first | rfl | simp) rfl (by simpa using HN.out) (window_one _) (by omega) (by unfold maxLen; omega) (by omega) (by simp; omega) _ rfl ?_; intro g4 cap4 w4 hown4 hgrow4 hor4 hlt4; have GX := Lib.hid (GW.out.nextN (x := ⟨k, k⟩) HEL.out hown4 hgrow4); clear hown4 hgrow4 hor4 hlt4)
              go_roundw
              case rel => exact ⟨k + 1, _, by omega, by go_num, EF, GX⟩
              case measure => simp [intOf]; omega
end Go.Proofs.Ytghjfcnboocmjaa
namespace Go.Proofs.Ytghjfcnboocmjaa
open Go.RowKit
set_option maxRecDepth 100000
/-- The berth of an index, or the zero berth. -/
def noBerth : BerthD := ⟨⟨#[]⟩, 0, 0⟩
def bAt (bs : List BerthD) (i : Int) : BerthD := if 0 ≤ i ∧ i < bs.length then bs[i.toNat]?.getD noBerth else noBerth
theorem bAt_no {bs : List BerthD} {i : Int} (h : ¬ (0 ≤ i ∧ i < bs.length)) : bAt bs i = noBerth := if_neg h
theorem bAt_at {bs : List BerthD} {j : Nat} {b : BerthD} (h : bs[j]? = some b) : bAt bs (j : Int) = b := by
  have hj := (List.getElem?_eq_some_iff.1 h).1
  unfold bAt
  rw [if_pos (by omega), Int.toNat_natCast, h]
  rfl
theorem noBerth_wf : noBerth.wf := ⟨by simp [noBerth, ByteArray.size], by simp [noBerth, Lit.wf, IntKind.min, IntKind.max, IntKind.signed, IntKind.bits], by simp [noBerth, Lit.wf, IntKind.min, IntKind.max, IntKind.signed, IntKind.bits]⟩
theorem bAt_wf {bs : List BerthD} (h : ∀ x ∈ bs, BerthD.wf x) (i : Int) : (bAt bs i).wf := by
  by_cases hi : 0 ≤ i ∧ i < bs.length
  · obtain ⟨b, hb⟩ : ∃ b, bs[i.toNat]? = some b := ⟨_, List.getElem?_eq_getElem (by omega)⟩
    have := bAt_at hb
    rw [Int.toNat_of_nonneg hi.1] at this
    rw [this]
    exact h b (List.mem_of_getElem? hb)
  · rw [bAt_no hi]
    exact noBerth_wf
set_option maxHeartbeats 4000000 in
theorem berthAt_any (v : Value) (bs : List BerthD) (i : Int) (w : World) (h : SlBerth w v bs) :
    Calls Try.prog 59 #[v, .int .i64 i] w fun e w' => e = .returned (bAt bs i).val ∧ Below w.heap.size w w' := by
  have HS := Lib.hid h
  have hl := h.1
  obtain ⟨A1, c1, rfl⟩ := h.at
  clear h
  have B := Lib.hid (Joins.below_alloc1 w (.cells #[.string ⟨#[]⟩, .int .i64 0, .int .i64 0] 41))
  have KB := Lib.hid (Blk.new w #[.string ⟨#[]⟩, .int .i64 0, .int .i64 0] 41)
  obtain ⟨nb, hnb⟩ : ∃ n, bs.length = n := ⟨_, rfl⟩
  have HNB := Lib.hid hnb
  rw [hnb] at hl ⊢
  clear hnb
  obtain ⟨t, ht⟩ : ∃ t, inB i 0 ((nb : Int) - 1) = t := ⟨_, rfl⟩
  cases t with
  | false =>
    have E := Lib.hid (bAt_no (bs := bs) (i := i) (by rw [HNB.out]; intro hh; have := of_decide_eq_false ht; omega))
    have HT := Lib.hid ht
    clear ht
    go_enter Try.func59, Try.ntmps59
    go_wp2_with fail
    refine (isIndex_any _ _ _).mono ?_
    rw [HT.out]
    rintro e w1 ⟨rfl, rfl⟩
    go_wp2
    refine bodyPost_ret (v := noBerth.val) (by simp [results, Try.results59, go_sem, noBerth]) rfl ⟨by rw [E.out], B.out⟩
  | true =>
    obtain ⟨j, hj⟩ : ∃ j : Nat, i = (j : Int) := ⟨i.toNat, by have := of_decide_eq_true ht; omega⟩
    subst hj
    have hjn : j < nb := by have := of_decide_eq_true ht; omega
    obtain ⟨b, hb⟩ : ∃ b, bs[j]? = some b := ⟨_, List.getElem?_eq_getElem (by have := HNB.out; omega)⟩
    have E := Lib.hid (bAt_at hb)
    have HT := Lib.hid ht
    rcases HS.out.2 with ⟨he, _⟩ | ⟨g, o, c', e, lpos, lcap, lc⟩
    · rw [he] at hb; simp at hb
    injection e with ea e2 e3
    subst ea
    clear e2 e3 lpos lcap
    obtain ⟨q0, q1, q2⟩ := SlBerth.cells lc j b hb
    have y0 := cell_onV q0 B.out
    have y1 := cell_onV q1 B.out
    have y2 := cell_onV q2 B.out
    clear q0 q1 q2 lc hb ht
    go_enter Try.func59, Try.ntmps59
    go_wp2_with fail
    refine (isIndex_any _ _ _).mono ?_
    rw [HT.out]
    rintro e w1 ⟨rfl, rfl⟩
    go_wp2
    refine bodyPost_ret (v := b.val) (by simp [results, Try.results59, go_sem, BerthD.val]) rfl ⟨by rw [E.out], Joins.below_alloc1 _ _⟩
set_option maxHeartbeats 4000000 in
theorem excludes_any (a b : StayD) (w : World) : Calls Try.prog 87 #[a.val, b.val] w fun e w' => e = .returned (.bool (meetB b a)) ∧ Below w.heap.size w w' := by
  have B := Lib.hid ((Joins.below_alloc1 w (.cells #[.int .i64 a.ship, .int .i64 a.berth, .int .i64 a.fr, .int .i64 a.tt] 33)).trans ((Joins.below_alloc1 (w.alloc (.cells #[.int .i64 a.ship, .int .i64 a.berth, .int .i64 a.fr, .int .i64 a.tt] 33)) (.cells #[.int .i64 b.ship, .int .i64 b.berth, .int .i64 b.fr, .int .i64 b.tt] 33)).mono (by simp)))
  obtain ⟨e1, he1⟩ : ∃ x, (a.ship == b.ship) = x := ⟨_, rfl⟩
  obtain ⟨e2, he2⟩ : ∃ x, (a.berth == b.berth) = x := ⟨_, rfl⟩
  obtain ⟨M, hM⟩ : ∃ M, max a.fr b.fr = M := ⟨_, rfl⟩
  obtain ⟨mn, hmn⟩ : ∃ M, min a.tt b.tt = M := ⟨_, rfl⟩
  obtain ⟨e3, he3⟩ : ∃ x, decide (M < mn) = x := ⟨_, rfl⟩
  have E := Lib.hid (show meetB b a = ((e1 || e2) && e3) by unfold meetB; rw [he1, he2, hM, hmn, he3])
  have q1 : (if a.fr < b.fr then b.fr else a.fr) = M := by rw [← hM]; split <;> omega
  have q1b : (if b.fr < a.fr then a.fr else b.fr) = M := by rw [← hM]; split <;> omega
  have q2 : (if a.tt < b.tt then a.tt else b.tt) = mn := by rw [← hmn]; split <;> omega
  have q2b : (if b.tt < a.tt then b.tt else a.tt) = mn := by rw [← hmn]; split <;> omega
  clear hM hmn
  cases e2 with
  | false =>
    cases e1 with
    | false =>
      clear q1 q1b q2 q2b he3
      go_enter Try.func87, Try.ntmps87
      go_wp2
      go_ret
      exact ⟨ret_bool (by rw [E.out]; rfl), B.out⟩
    | true =>
      go_enter Try.func87, Try.ntmps87
      go_wp2
      go_ret
      exact ⟨ret_bool (by rw [E.out]; rfl), B.out⟩
  | true =>
    go_enter Try.func87, Try.ntmps87
    go_wp2
    go_ret
    exact ⟨ret_bool (by rw [E.out]; simp), B.out⟩
/-- The closure of canStay: the stay s lies in the cells of Ba. -/
theorem canStay1 (x s : StayD) (Ba : Nat) (w : World) (ha0 : w.cell? ⟨Ba, 0, none⟩ = some (.int .i64 s.ship)) (ha1 : w.cell? ⟨Ba, 1, none⟩ = some (.int .i64 s.berth)) (ha2 : w.cell? ⟨Ba, 2, none⟩ = some (.int .i64 s.fr)) (ha3 : w.cell? ⟨Ba, 3, none⟩ = some (.int .i64 s.tt)) :
    Calls Try.prog 86 #[x.val, .pointer (some ⟨Ba, 0, none⟩)] w fun e w' => e = .returned (.bool (meetB s x)) ∧ Below w.heap.size w w' := by
  have hb := Joins.below_alloc1 w (.cells #[.int .i64 x.ship, .int .i64 x.berth, .int .i64 x.fr, .int .i64 x.tt] 33)
  obtain ⟨W0, hW0⟩ : ∃ W, W = w.alloc (.cells #[.int .i64 x.ship, .int .i64 x.berth, .int .i64 x.fr, .int .i64 x.tt] 33) := ⟨_, rfl⟩
  have KN := Blk.new w #[.int .i64 x.ship, .int .i64 x.berth, .int .i64 x.fr, .int .i64 x.tt] 33
  rw [← hW0] at hb KN
  have z0 := cell_onV ha0 hb
  have z1 := cell_onV ha1 hb
  have z2 := cell_onV ha2 hb
  have z3 := cell_onV ha3 hb
  have x0 : W0.cell? ⟨w.heap.size, 0, none⟩ = some (.int .i64 x.ship) := KN.cell 0
  have x1 : W0.cell? ⟨w.heap.size, 1, none⟩ = some (.int .i64 x.berth) := KN.cell 1
  have x2 : W0.cell? ⟨w.heap.size, 2, none⟩ = some (.int .i64 x.fr) := KN.cell 2
  have x3 : W0.cell? ⟨w.heap.size, 3, none⟩ = some (.int .i64 x.tt) := KN.cell 3
  have B := Lib.hid hb
  have HW0 := Lib.hid hW0
  clear ha0 ha1 ha2 ha3 hb KN hW0
  go_enter Try.func86, Try.ntmps86
  go_upto_region 1 with fail
  rw [← HW0.out]
  go_wp2_with fail
  refine (excludes_any x s _).mono ?_
  rintro e w1 ⟨rfl, hb1⟩
  have B1 := Lib.hid (B.out.trans (hb1.mono B.out.size))
  clear hb1 z0 z1 z2 z3 x0 x1 x2 x3
  go_wp2
  go_ret
  exact ⟨rfl, B1.out⟩
set_option maxHeartbeats 2000000 in
theorem stayIndex_any (v : Value) (l : List StayD) (s : StayD) (Ba : Nat) (w : World) (h : SlStay w v l) (ha0 : w.cell? ⟨Ba, 0, none⟩ = some (.int .i64 s.ship)) (ha1 : w.cell? ⟨Ba, 1, none⟩ = some (.int .i64 s.berth)) (ha2 : w.cell? ⟨Ba, 2, none⟩ = some (.int .i64 s.fr)) (ha3 : w.cell? ⟨Ba, 3, none⟩ = some (.int .i64 s.tt)) :
    Calls Try.prog 104 #[v, .func (.func 86) #[] #[.pointer (some ⟨Ba, 0, none⟩)]] w fun e w' => e = .returned (.int .i64 (firstI (meetB s) l)) ∧ Below w.heap.size w w' := by
  have HS := Lib.hid h
  have hl := h.1
  obtain ⟨A1, c1, rfl⟩ := h.at
  have A0 := Lib.hid ha0
  have A1' := Lib.hid ha1
  have A2 := Lib.hid ha2
  have A3 := Lib.hid ha3
  clear h ha0 ha1 ha2 ha3
  go_enter Try.func104, Try.ntmps104
  go_wp2
  go_loopw [8] (fun i wr => ∃ k : Nat, k ≤ l.length ∧ i = .int .i64 k ∧ Hid (NoOne (meetB s) l k) ∧ Hid (Below w.heap.size w wr)) (fun i _ => l.length - (intOf i).toNat)
  case atStart => exact ⟨0, Nat.zero_le _, rfl, Lib.hid (NoOne.zero _ _), Lib.hid (Below.refl _ _)⟩
  case round =>
    obtain ⟨k, hk, rfl, hN, hb⟩ := hrel
    by_cases hlt : k < l.length
    · obtain ⟨x, hx⟩ : ∃ x, l[k]? = some x := ⟨_, List.getElem?_eq_getElem hlt⟩
      rcases HS.out.2 with ⟨he, _⟩ | ⟨g, o, c, e, hpos, hcap, hc⟩
      · rw [he] at hlt; simp at hlt
      · injection e with hA _ hcp
        subst hA hcp
        obtain ⟨q0, q1, q2, q3⟩ := SlStay.cells hc k x hx
        have y0 := cell_onV q0 hb.out
        have y1 := cell_onV q1 hb.out
        have y2 := cell_onV q2 hb.out
        have y3 := cell_onV q3 hb.out
        have HX := Lib.hid hx
        clear q0 q1 q2 q3 hx hc
        obtain ⟨t, ht⟩ : ∃ t, meetB s x = t := ⟨_, rfl⟩
        have HT := Lib.hid ht
        clear ht
        go_wp2_with fail
        refine (canStay1 x s Ba _ (cell_onV A0.out hb.out) (cell_onV A1'.out hb.out) (cell_onV A2.out hb.out) (cell_onV A3.out hb.out)).mono ?_
        rw [HT.out]
        rintro e w5 ⟨rfl, hb5⟩
        have hb6 := Lib.hid (hb.out.trans (hb5.mono hb.out.size))
        clear hb5 y0 y1 y2 y3
        cases t with
        | true =>
          have E := Lib.hid (firstI_at hN.out HX.out HT.out)
          go_wp2
          go_ret
          exact ⟨ret_int E.out.symm, hb6.out⟩
        | false =>
          have N2 := Lib.hid (hN.out.next HX.out HT.out)
          go_wp2
          go_roundw
          case rel => exact ⟨k + 1, by omega, by go_num, N2, hb6⟩
          case measure => simp [intOf]; omega
    · obtain rfl : k = l.length := by omega
      have E := Lib.hid (firstI_none hN.out)
      go_wp2
      go_ret
      exact ⟨ret_int E.out.symm, hb.out⟩
theorem first_any {α : Type} (p : α → Bool) (l : List α) : decide (0 ≤ firstI p l) = l.any p := by
  unfold firstI
  cases h : l.findIdx? p with
  | none =>
    rw [List.findIdx?_eq_none_iff] at h
    rw [List.any_eq_false.2 (fun x hx => by rw [h x hx]; simp)]
    rfl
  | some n =>
    rw [List.findIdx?_eq_some_iff_getElem] at h
    obtain ⟨hn, h1, _⟩ := h
    rw [List.any_eq_true.2 ⟨_, List.getElem_mem hn, h1⟩]
    simp
theorem stayContains_any (v : Value) (l : List StayD) (s : StayD) (Ba : Nat) (w : World) (h : SlStay w v l) (ha0 : w.cell? ⟨Ba, 0, none⟩ = some (.int .i64 s.ship)) (ha1 : w.cell? ⟨Ba, 1, none⟩ = some (.int .i64 s.berth)) (ha2 : w.cell? ⟨Ba, 2, none⟩ = some (.int .i64 s.fr)) (ha3 : w.cell? ⟨Ba, 3, none⟩ = some (.int .i64 s.tt)) :
    Calls Try.prog 85 #[v, .func (.func 86) #[] #[.pointer (some ⟨Ba, 0, none⟩)]] w fun e w' => e = .returned (.bool (l.any (meetB s))) ∧ Below w.heap.size w w' := by
  have C := Lib.hid (stayIndex_any v l s Ba w h ha0 ha1 ha2 ha3)
  obtain ⟨i, hi⟩ : ∃ i, firstI (meetB s) l = i := ⟨_, rfl⟩
  have HI := Lib.hid hi
  have E := Lib.hid (show l.any (meetB s) = decide (0 ≤ i) by rw [← first_any, hi])
  obtain ⟨Ab, cb, rfl⟩ := h.at
  clear h ha0 ha1 ha2 ha3 hi
  go_enter Try.func85, Try.ntmps85
  go_wp2_with fail
  refine C.out.mono ?_
  rw [HI.out]
  rintro e w1 ⟨rfl, hb1⟩
  have B1 := Lib.hid hb1
  clear hb1
  go_wp2
  go_ret
  exact ⟨ret_bool (by rw [E.out]), B1.out⟩
set_option maxHeartbeats 4000000 in
theorem implBerthLoad (v : Value) (l : List StayD) (b : Int) (w : World) (h : SlStay w v l) :
    Calls Try.prog 17 #[v, .int .i64 b] w fun e w' => e = .returned (.int .i64 (loadI l b)) ∧ Below w.heap.size w w' := by
  have HS := Lib.hid h
  have hl := h.1
  obtain ⟨A1, c1, rfl⟩ := h.at
  clear h
  obtain ⟨m, hm⟩ : ∃ m, l.length = m := ⟨_, rfl⟩
  have HM := Lib.hid hm
  rw [hm] at hl ⊢
  clear hm
  go_enter Try.func17, Try.ntmps17
  go_wp2
  go_loopw [5, 10] (fun q i wr => ∃ k : Nat, k ≤ m ∧ i = .int .i64 (k : Int) ∧ q = .int .i64 (loadI (l.take k) b) ∧ Hid (Below w.heap.size w wr)) (fun _ i _ => m - (intOf i).toNat)
  case atStart => exact ⟨0, Nat.zero_le _, rfl, rfl, Lib.hid (Below.refl _ _)⟩
  case round =>
    obtain ⟨k, hk, rfl, rfl, hb⟩ := hrel
    have hzs := hb.out.size
    have hle := loadI_le l b k
    by_cases hlt : k < m
    rotate_left
    · obtain rfl : k = m := by omega
      have E := Lib.hid (show loadI (l.take k) b = loadI l b by rw [List.take_of_length_le (by rw [HM.out]; omega)])
      go_wp2
      go_ret
      exact ⟨ret_int E.out, hb.out⟩
    obtain ⟨x, hx⟩ : ∃ x, l[k]? = some x := ⟨_, List.getElem?_eq_getElem (by have := HM.out; omega)⟩
    have HN := Lib.hid (loadI_next (b := b) hx)
    rcases HS.out.2 with ⟨he, _⟩ | ⟨g, o, c', e, lpos, lcap, lc⟩
    · rw [he] at hx; simp at hx
    injection e with ea e2 e3
    subst ea
    clear e2 e3 lpos lcap
    obtain ⟨q0, q1, q2, q3⟩ := SlStay.cells lc k x hx
    have y0 := cell_onV q0 hb.out
    have y1 := cell_onV q1 hb.out
    have y2 := cell_onV q2 hb.out
    have y3 := cell_onV q3 hb.out
    clear q0 q1 q2 q3 hx lc
    go_upto_region 5 with fail
    have BL := Joins.below_alloc1 wr (.cells #[.int .i64 x.ship, .int .i64 x.berth, .int .i64 x.fr, .int .i64 x.tt] 33)
    have KN := Blk.new wr #[.int .i64 x.ship, .int .i64 x.berth, .int .i64 x.fr, .int .i64 x.tt] 33
    obtain ⟨w2, hw2⟩ : ∃ W, W = wr.alloc (.cells #[.int .i64 x.ship, .int .i64 x.berth, .int .i64 x.fr, .int .i64 x.tt] 33) := ⟨_, rfl⟩
    rw [← hw2] at BL KN ⊢
    have B2 := Lib.hid (hb.out.trans (BL.mono hb.out.size))
    have KP := Lib.hid KN
    have z0 : w2.cell? ⟨wr.heap.size, 0, none⟩ = some (.int .i64 x.ship) := KN.cell 0
    have z1 : w2.cell? ⟨wr.heap.size, 1, none⟩ = some (.int .i64 x.berth) := KN.cell 1
    have z2 : w2.cell? ⟨wr.heap.size, 2, none⟩ = some (.int .i64 x.fr) := KN.cell 2
    have z3 : w2.cell? ⟨wr.heap.size, 3, none⟩ = some (.int .i64 x.tt) := KN.cell 3
    clear BL KN hw2 y0 y1 y2 y3
    obtain ⟨S, hS⟩ : ∃ z, loadI (l.take k) b = z := ⟨_, rfl⟩
    rw [hS] at hle HN ⊢
    clear hS
    cases he1 : (x.berth == b) with
    | false =>
      have E2 := Lib.hid (HN.out.trans (if_neg (by rw [he1]; simp)))
      go_wp2
      go_roundw
      case rel => exact ⟨k + 1, by omega, by go_num, by rw [E2.out], B2⟩
      case measure => simp [intOf]; omega
    | true =>
      obtain ⟨t, ht⟩ : ∃ t, timeB x = t := ⟨_, rfl⟩
      have HT := Lib.hid ((timeB_span x).symm.trans ht)
      have HT2 := Lib.hid ht
      have HN1 := Lib.hid (HN.out.trans (by rw [he1, ht]; rfl : _ = if t = true then S + x.tt - x.fr else S))
      clear ht
      go_wp2_with fail
      refine (isSpan_any _ _ _).mono ?_
      rw [HT.out]
      rintro e w3 ⟨rfl, rfl⟩
      have B3 := B2
      cases t with
      | false =>
        have E2 := Lib.hid (HN1.out.trans (if_neg (by simp)))
        go_wp2
        go_roundw
        case rel => exact ⟨k + 1, by omega, by go_num, by rw [E2.out], B3⟩
        case measure => simp [intOf]; omega
      | true =>
        have E2 := Lib.hid ((HN1.out.trans (if_pos rfl)).trans (show _ = S + (x.tt - x.fr) by omega))
        have htt : 0 ≤ x.fr ∧ x.fr < x.tt ∧ x.tt ≤ 2880 := by
          have h2 := HT2.out
          unfold timeB at h2
          simp only [Bool.and_eq_true] at h2
          have h3 := of_decide_eq_true h2.1.1
          have h4 := of_decide_eq_true h2.1.2
          have h5 := of_decide_eq_true h2.2
          omega
        have w1 : IntKind.i64.wrap (x.tt - x.fr) = x.tt - x.fr := by rw [IntKind.wrap_i64]; omega
        have w2' : IntKind.i64.wrap (S + (x.tt - x.fr)) = S + (x.tt - x.fr) := by rw [IntKind.wrap_i64]; omega
        go_wp2
        go_roundw
        case rel => exact ⟨k + 1, by omega, by go_num, by rw [E2.out], B3⟩
        case measure => simp [intOf]; omega
end Go.Proofs.Ytghjfcnboocmjaa
