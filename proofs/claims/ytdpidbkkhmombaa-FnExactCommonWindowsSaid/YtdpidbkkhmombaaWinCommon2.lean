
/- CommonWindows of the program and of the model, whole: contracts. -/
import Derived.Test.YtdpidbkkhmombaaWinCommon
namespace Go.Proofs.Ytdpidbkkhmombaa
open Go.RowKit Go.Shelf
set_option maxRecDepth 100000

theorem commonParts_any (A A' : Option Addr) (n n' c c' : Nat) (w : World) :
    Calls Try.prog 63 #[.slice A n c, .slice A' n' c'] w fun e w' => e = .returned (.func (.func 93) #[] #[.pointer (some ⟨w.heap.size, 0, none⟩), .pointer (some ⟨w.heap.size + 1, 0, none⟩)]) ∧ w' = (w.alloc (.cells #[.slice A n c] 23)).alloc (.cells #[.slice A' n' c'] 23) := by
  go_enter Try.func63, Try.ntmps63
  go_wp2
  go_ret
  exact ⟨rfl, rfl⟩

set_option maxHeartbeats 4000000 in
theorem implCommonWindows (v0 : Value) (l0 : List WindowD) (v1 : Value) (l1 : List WindowD) (w : World) (h0 : SlWindow w v0 l0) (h1 : SlWindow w v1 l1) :
    Calls Try.prog 20 #[v0, v1] w (NewWindow (commonL l0 l1) w) := by
  have H0 := Lib.hid h0
  have H1 := Lib.hid h1
  have hl0 := h0.1
  have hl1 := h1.1
  obtain ⟨A, c, rfl⟩ := h0.at
  obtain ⟨A', c', rfl⟩ := h1.at
  clear h0 h1
  cases hok : winB l0 with
  | false =>
    have E := Lib.hid (commonL_bad (b := l1) hok)
    have HOK := Lib.hid hok
    clear hok
    go_enter Try.func20, Try.ntmps20
    go_wp2_with fail
    refine (implWindowsOk _ l0 _ H0.out).mono ?_
    rw [HOK.out]
    rintro e w1 ⟨rfl, hb1⟩
    have B1 := Lib.hid hb1
    clear hb1
    go_wp2
    go_ret
    exact NewWindow.empty B1.out E.out
  | true =>
    have HOK := Lib.hid hok
    cases hok' : winB l1 with
    | false =>
      have E := Lib.hid (commonL_bad' (a := l0) hok')
      have HOK' := Lib.hid hok'
      clear hok hok'
      go_enter Try.func20, Try.ntmps20
      go_wp2_with fail
      refine (implWindowsOk _ l0 _ H0.out).mono ?_
      rw [HOK.out]
      rintro e w1 ⟨rfl, hb1⟩
      have B1 := Lib.hid hb1
      clear hb1
      go_wp2_with fail
      refine (implWindowsOk _ l1 _ (H1.out.below B1.out)).mono ?_
      rw [HOK'.out]
      rintro e w2 ⟨rfl, hb2⟩
      have B2 := Lib.hid (B1.out.trans (hb2.mono B1.out.size))
      clear hb2
      go_wp2
      go_ret
      exact NewWindow.empty B2.out E.out
    | true =>
      have E := Lib.hid (commonL_ok hok hok')
      have HOK' := Lib.hid hok'
      clear hok hok'
      go_enter Try.func20, Try.ntmps20
      go_wp2_with fail
      refine (implWindowsOk _ l0 _ H0.out).mono ?_
      rw [HOK.out]
      rintro e w1 ⟨rfl, hb1⟩
      have B1 := Lib.hid hb1
      clear hb1
      go_wp2_with fail
      refine (implWindowsOk _ l1 _ (H1.out.below B1.out)).mono ?_
      rw [HOK'.out]
      rintro e w2 ⟨rfl, hb2⟩
      have B2 := Lib.hid (B1.out.trans (hb2.mono B1.out.size))
      clear hb2
      go_wp2_with fail
      refine (commonParts_any _ _ _ _ _ _ _).mono ?_
      rintro e w3 ⟨rfl, hw3⟩
      have hal : Below w2.heap.size w2 w3 := by rw [hw3]; exact Joins.below_alloc2 w2 _ _
      have bx : Blk w3 w2.heap.size #[.slice A l0.length c] 23 := by rw [hw3]; exact (Blk.new _ _ _).below (Joins.below_alloc1 _ _)
      have by' : Blk w3 (w2.heap.size + 1) #[.slice A' l1.length c'] 23 := by rw [hw3]; exact Blk.newAt (by simp) _ _
      have B3 := Lib.hid (B2.out.trans (hal.mono B2.out.size))
      have HS := Lib.hid (common1 A A' c c' l0 l1 w2.heap.size (w2.heap.size + 1) w3 (H0.out.below B3.out) (H1.out.below B3.out) bx.lt by'.lt (bx.cell 0) (by'.cell 0))
      have CC := Lib.hid (collect_any _ _ _ _ _ _ HS.out (Nat.le_refl _) (enters_of Try.func93 (by kernel_rfl) rfl) (by omega))
      clear hw3 hal bx by' HS
      go_wp2_with fail
      refine CC.out.mono ?_
      intro e w4 hnew
      obtain ⟨v4, rfl, h1, h2⟩ := hnew
      have K1 := Lib.hid h1
      have K2 := Lib.hid h2
      obtain ⟨A3, c3, rfl⟩ := own_form h1
      clear h1 h2
      go_wp2
      go_ret
      rw [E.out]
      exact ⟨_, rfl, own_lo K1.out B3.out.size, B3.out.trans (K2.out.mono B3.out.size)⟩

theorem WOk.step {l : List WindowD} (h : WOk l) : ∀ i (hi : i < l.length), 2 * (i : Int) ≤ (l[i]).fr := by
  intro i
  induction i with
  | zero => intro hi; have := h.1 l[0] (List.getElem_mem hi); omega
  | succ i ih =>
    intro hi
    have h1 := ih (by omega)
    have h2 := (List.pairwise_iff_getElem.1 h.2) i (i + 1) (by omega) hi (by omega)
    have h3 := h.1 l[i] (List.getElem_mem (by omega))
    omega
theorem WOk.len {l : List WindowD} (h : WOk l) : l.length ≤ 1441 := by
  rcases Nat.lt_or_ge 1441 l.length with hlt | hge
  · have h1 := h.step 1441 hlt
    have h2 := h.1 l[1441] (List.getElem_mem hlt)
    omega
  · exact hge
theorem rowMeet_len (x : WindowD) (b : List WindowD) : (rowMeet x b).length ≤ b.length := by
  induction b with
  | nil => simp [rowMeet]
  | cons y b ih =>
    have := meet_len x y
    simp only [rowMeet, List.flatMap_cons, List.length_append, List.length_cons] at *
    omega
theorem allMeet_len (b : List WindowD) : ∀ (a : List WindowD) (i : Nat), a.length ≤ i → b.length ≤ 1441 → i ≤ 1441 → (allMeet a b).length ≤ i * 1441 := by
  intro a
  induction a with
  | nil => intro i _ _ _; simp [allMeet]
  | cons x a ih =>
    intro i hi hb h1
    cases i with
    | zero => simp at hi
    | succ i =>
      have := ih i (by simpa using hi) hb (by omega)
      have := rowMeet_len x b
      simp only [allMeet, List.flatMap_cons, List.length_append] at *
      omega
theorem rowMeet_next {b : List WindowD} {k : Nat} {x y : WindowD} (h : b[k]? = some y) : rowMeet x (b.take (k + 1)) = rowMeet x (b.take k) ++ meet x y := by
  unfold rowMeet
  rw [take_snoc' b k y h, List.flatMap_append]
  simp
theorem allMeet_next {a b : List WindowD} {i : Nat} {x : WindowD} (h : a[i]? = some x) : allMeet (a.take (i + 1)) b = allMeet (a.take i) b ++ rowMeet x b := by
  unfold allMeet
  rw [take_snoc' a i x h, List.flatMap_append]
  simp

/-- The list grows in a slot, and a block that the walk laid is not its own. -/
def GathB (w : World) (v : Value) (acc : List WindowD) (B : Nat) (x : WindowD) (wr : World) : Prop :=
  GathW w v acc wr ∧ Blk wr B #[.int .i64 x.fr, .int .i64 x.tt] 36 ∧ v.ownBlock ≠ some B
theorem GathB.start {w wr : World} {v : Value} {acc : List WindowD} (x : WindowD) (h : GathW w v acc wr) : GathB w v acc wr.heap.size x (wr.alloc (.cells #[.int .i64 x.fr, .int .i64 x.tt] 36)) :=
  ⟨h.below (Joins.below_alloc1 _ _), Blk.new _ _ _, fun e => by have := (World.ownsRow.lt h.1 _ e).2; omega⟩
theorem GathB.below {w wr W : World} {v : Value} {acc : List WindowD} {B : Nat} {x : WindowD} (h : GathB w v acc B x wr) (hb : Below wr.heap.size wr W) : GathB w v acc B x W :=
  ⟨h.1.below hb, h.2.1.below hb, h.2.2⟩
theorem GathB.next {w W w4 : World} {v : Value} {acc : List WindowD} {B : Nat} {z x : WindowD} {g4 cap4 : Nat} (h : GathB w v acc B z W)
    (hown : w4.ownsRow w.heap.size 36 2 (.slice (some ⟨g4, 0, none⟩) (acc.length + 1) cap4) (acc.length + 1) (acc.flatMap WindowD.cells ++ x.cells)) (hgr : W.grownBy w4 v.ownBlock) (hor : v.ownBlock = some g4 ∨ g4 = W.heap.size) :
    GathB w (.slice (some ⟨g4, 0, none⟩) (acc.length + 1) cap4) (acc ++ [x]) B z w4 := by
  refine ⟨h.1.next hown hgr, h.2.1.grown hgr (fun e => h.2.2 e.symm), fun e => ?_⟩
  have e' : g4 = B := by simpa [Value.ownBlock] using e
  rcases hor with ho | ho
  · exact h.2.2 (by rw [ho, e'])
  · have := h.2.1.lt; omega

set_option maxHeartbeats 8000000 in
theorem specCommonWindows (v0 : Value) (l0 : List WindowD) (v1 : Value) (l1 : List WindowD) (w : World) (h0 : SlWindow w v0 l0) (h1 : SlWindow w v1 l1) :
    Calls Try.prog 41 #[v0, v1] w (NewWindow (commonL l0 l1) w) := by
  have H0 := Lib.hid h0
  have H1 := Lib.hid h1
  have hl0 := h0.1
  have hl1 := h1.1
  obtain ⟨A, c, rfl⟩ := h0.at
  obtain ⟨A', c', rfl⟩ := h1.at
  clear h0 h1
  cases hok : winB l0 with
  | false =>
    have E := Lib.hid (commonL_bad (b := l1) hok)
    have HOK := Lib.hid hok
    clear hok
    go_enter Try.func41, Try.ntmps41
    go_wp2_with fail
    refine (specWindowsOk _ l0 _ H0.out).mono ?_
    rw [HOK.out]
    rintro e w1 ⟨rfl, hb1⟩
    have B1 := Lib.hid hb1
    clear hb1
    go_wp2
    go_ret
    exact NewWindow.empty B1.out E.out
  | true =>
    have HOK := Lib.hid hok
    cases hok' : winB l1 with
    | false =>
      have E := Lib.hid (commonL_bad' (a := l0) hok')
      have HOK' := Lib.hid hok'
      clear hok hok'
      go_enter Try.func41, Try.ntmps41
      go_wp2_with fail
      refine (specWindowsOk _ l0 _ H0.out).mono ?_
      rw [HOK.out]
      rintro e w1 ⟨rfl, hb1⟩
      have B1 := Lib.hid hb1
      clear hb1
      go_wp2_with fail
      refine (specWindowsOk _ l1 _ (H1.out.below B1.out)).mono ?_
      rw [HOK'.out]
      rintro e w2 ⟨rfl, hb2⟩
      have B2 := Lib.hid (B1.out.trans (hb2.mono B1.out.size))
      clear hb2
      go_wp2
      go_ret
      exact NewWindow.empty B2.out E.out
    | true =>
      have E := Lib.hid ((commonL_ok hok hok').trans (commF_eq _ _ (WOk.of hok) (WOk.of hok')))
      have n0 := (WOk.of hok).len
      have n1 := (WOk.of hok').len
      have HOK' := Lib.hid hok'
      clear hok hok'
      obtain ⟨i0, hin, hz0, hzs, hz2⟩ := info_parts info_window
      have HI := Lib.hid hin
      clear hin
      go_enter Try.func41, Try.ntmps41
      go_wp2_with fail
      refine (specWindowsOk _ l0 _ H0.out).mono ?_
      rw [HOK.out]
      rintro e w1 ⟨rfl, hb1⟩
      have B1 := Lib.hid hb1
      clear hb1
      go_wp2_with fail
      refine (specWindowsOk _ l1 _ (H1.out.below B1.out)).mono ?_
      rw [HOK'.out]
      rintro e w2 ⟨rfl, hb2⟩
      have B2 := Lib.hid (B1.out.trans (hb2.mono B1.out.size))
      clear hb2
      go_wp2
      have G0 := Lib.hid (GathW.made B2.out)
      go_loopw [5, 23] (fun s p wr => ∃ i : Nat, i ≤ l0.length ∧ p = .int .i64 i ∧ Hid (GathW w s (allMeet (l0.take i) l1) wr)) (fun _ p _ => l0.length - (intOf p).toNat)
      case atStart => exact ⟨0, Nat.zero_le _, rfl, by simpa [allMeet] using G0⟩
      case round =>
        obtain ⟨i, hi, rfl, hG⟩ := hrel
        by_cases hlt : i < l0.length
        rotate_left
        · obtain rfl : i = l0.length := by omega
          rw [List.take_length] at hG
          go_wp2
          go_ret
          exact hG.out.new E.out
        · obtain ⟨x, hx⟩ : ∃ x, l0[i]? = some x := ⟨_, List.getElem?_eq_getElem hlt⟩
          obtain ⟨g, o, rfl, hg, p0, p1⟩ := H0.out.place hx
          have a0 := (hG.out.2.cell (p := ⟨g, o + i * 2, none⟩) hg).trans p0
          have a1 := (hG.out.2.cell (p := ⟨g, o + i * 2 + 1, none⟩) hg).trans p1
          have HX := Lib.hid hx
          have hsz := hG.out.size
          have hgr : g < wr.heap.size := by omega
          have hml := allMeet_len l1 (l0.take i) i (by simp; omega) n1 (by omega)
          have EN := Lib.hid (allMeet_next (b := l1) hx)
          obtain ⟨pre, hpre⟩ : ∃ pre, allMeet (l0.take i) l1 = pre := ⟨_, rfl⟩
          rw [hpre] at hG hml EN
          clear p0 p1 hx hpre
          have G1 := Lib.hid (GathB.start x hG.out)
          go_wp2
          obtain ⟨Bx, hBx⟩ : ∃ Bx, Bx = wr.heap.size := ⟨_, rfl⟩
          rw [← hBx] at G1 ⊢
          clear hBx a0 a1 hgr hsz
          go_loopw [5, 29] (fun s p wq => ∃ k : Nat, k ≤ l1.length ∧ p = .int .i64 k ∧ Hid (GathB w s (pre ++ rowMeet x (l1.take k)) Bx x wq)) (fun _ p _ => l1.length - (intOf p).toNat)
          case atStart => exact ⟨0, Nat.zero_le _, rfl, by simpa [rowMeet] using G1⟩
          case round =>
            obtain ⟨k, hk, rfl, hQ⟩ := hrel
            by_cases hlt1 : k < l1.length
            rotate_left
            · obtain rfl : k = l1.length := by omega
              rw [List.take_length] at hQ
              go_wp2
              go_roundw
              case rel =>
                refine ⟨i + 1, by omega, by go_num, Lib.hid ?_⟩
                rw [EN.out]
                exact hQ.out.1
              case measure => simp [intOf]; omega
            · obtain ⟨y, hy⟩ : ∃ y, l1[k]? = some y := ⟨_, List.getElem?_eq_getElem hlt1⟩
              obtain ⟨g', o', rfl, hg', q0, q1⟩ := H1.out.place hy
              have b0 := (hQ.out.1.2.cell (p := ⟨g', o' + k * 2, none⟩) hg').trans q0
              have b1 := (hQ.out.1.2.cell (p := ⟨g', o' + k * 2 + 1, none⟩) hg').trans q1
              have HB := Lib.hid hQ.out.2.1
              have hx0 : wr.cell? ⟨Bx, 0, none⟩ = some (.int .i64 x.fr) := HB.out.cell 0
              have hx1 : wr.cell? ⟨Bx, 1, none⟩ = some (.int .i64 x.tt) := HB.out.cell 1
              have hsq := hQ.out.1.size
              have hgq : g' < wr.heap.size := by omega
              have hBq : Bx < wr.heap.size := HB.out.lt
              have nBq : Bx ≠ wr.heap.size := by omega
              have ER := Lib.hid (rowMeet_next (x := x) hy)
              have hrl := rowMeet_len x (l1.take k)
              obtain ⟨acc, hacc⟩ : ∃ acc, pre ++ rowMeet x (l1.take k) = acc := ⟨_, rfl⟩
              have hal : acc.length ≤ 1441 * 1441 + 1441 := by
                rw [← hacc, List.length_append]
                rw [List.length_take] at hrl
                have : i * 1441 ≤ 1441 * 1441 := Nat.mul_le_mul_right _ (by omega)
                omega
              rw [hacc] at hQ
              have HA := Lib.hid hacc
              clear hacc q0 q1 hy hrl HB
              by_cases hA : x.fr < y.fr
              · by_cases hC : y.tt < x.tt
                · skip
                  have EM := Lib.hid (meetQ (x := x) (y := y) (M := y.fr) (m := y.tt) (by omega) (by omega))
                  by_cases hm : y.fr ≤ y.tt
                  · rw [if_pos hm] at EM
                    have hW := Lib.hid (Joins.below_alloc2 wr (.cells #[.int .i64 y.fr, .int .i64 y.tt] 36) (.cells #[.int .i64 y.fr, .int .i64 y.tt] 36))
                    have GW := Lib.hid (hQ.out.below hW.out)
                    have HN := Lib.hid (World.news_of_block (heap_alloc_new (wr.alloc (.cells #[.int .i64 y.fr, .int .i64 y.tt] 36)) (.cells #[.int .i64 y.fr, .int .i64 y.tt] 36)))
                    go_wp2_with (at_builtin; refine wpList_append_lies _ rfl _ _ _ rfl w.heap.size 36 i0 _ 2 16 Try.underlying23 HI.out hz0 (by assumption) hz2 rfl (by omega) u5 acc.length (acc.flatMap WindowD.cells) rfl GW.out.1.1 ⟨wr.heap.size + 1, 0, none⟩ 1 1 (WindowD.cells ⟨y.fr, y.tt⟩) (by first | rfl | simp) rfl (by simpa using HN.out) (window_one _) (by omega) (by unfold maxLen; omega) (by omega) (by simp; omega) _ rfl ?_; intro g4 cap4 w4 hown4 hgrow4 hor4 hlt4; have GX := Lib.hid (GW.out.next (x := ⟨y.fr, y.tt⟩) hown4 hgrow4 hor4); clear hown4 hgrow4 hor4 hlt4)
                    go_roundw
                    case rel =>
                      refine ⟨k + 1, by omega, by go_num, Lib.hid ?_⟩
                      rw [ER.out, EM.out, ← List.append_assoc, HA.out]
                      exact GX.out
                    case measure => simp [intOf]; omega
                  · rw [if_neg hm] at EM
                    have hW := Lib.hid (Joins.below_alloc1 wr (.cells #[.int .i64 y.fr, .int .i64 y.tt] 36))
                    have GW := Lib.hid (hQ.out.below hW.out)
                    go_wp2
                    go_roundw
                    case rel =>
                      refine ⟨k + 1, by omega, by go_num, Lib.hid ?_⟩
                      rw [ER.out, EM.out, List.append_nil, HA.out]
                      exact GW.out
                    case measure => simp [intOf]; omega
                · skip
                  have EM := Lib.hid (meetQ (x := x) (y := y) (M := y.fr) (m := x.tt) (by omega) (by omega))
                  by_cases hm : y.fr ≤ x.tt
                  · rw [if_pos hm] at EM
                    have hW := Lib.hid (Joins.below_alloc2 wr (.cells #[.int .i64 y.fr, .int .i64 y.tt] 36) (.cells #[.int .i64 y.fr, .int .i64 x.tt] 36))
                    have GW := Lib.hid (hQ.out.below hW.out)
                    have HN := Lib.hid (World.news_of_block (heap_alloc_new (wr.alloc (.cells #[.int .i64 y.fr, .int .i64 y.tt] 36)) (.cells #[.int .i64 y.fr, .int .i64 x.tt] 36)))
                    go_wp2_with (at_builtin; refine wpList_append_lies _ rfl _ _ _ rfl w.heap.size 36 i0 _ 2 16 Try.underlying23 HI.out hz0 (by assumption) hz2 rfl (by omega) u5 acc.length (acc.flatMap WindowD.cells) rfl GW.out.1.1 ⟨wr.heap.size + 1, 0, none⟩ 1 1 (WindowD.cells ⟨y.fr, x.tt⟩) (by first | rfl | simp) rfl (by simpa using HN.out) (window_one _) (by omega) (by unfold maxLen; omega) (by omega) (by simp; omega) _ rfl ?_; intro g4 cap4 w4 hown4 hgrow4 hor4 hlt4; have GX := Lib.hid (GW.out.next (x := ⟨y.fr, x.tt⟩) hown4 hgrow4 hor4); clear hown4 hgrow4 hor4 hlt4)
                    go_roundw
                    case rel =>
                      refine ⟨k + 1, by omega, by go_num, Lib.hid ?_⟩
                      rw [ER.out, EM.out, ← List.append_assoc, HA.out]
                      exact GX.out
                    case measure => simp [intOf]; omega
                  · rw [if_neg hm] at EM
                    have hW := Lib.hid (Joins.below_alloc1 wr (.cells #[.int .i64 y.fr, .int .i64 y.tt] 36))
                    have GW := Lib.hid (hQ.out.below hW.out)
                    go_wp2
                    go_roundw
                    case rel =>
                      refine ⟨k + 1, by omega, by go_num, Lib.hid ?_⟩
                      rw [ER.out, EM.out, List.append_nil, HA.out]
                      exact GW.out
                    case measure => simp [intOf]; omega
              · by_cases hC : y.tt < x.tt
                · skip
                  have EM := Lib.hid (meetQ (x := x) (y := y) (M := x.fr) (m := y.tt) (by omega) (by omega))
                  by_cases hm : x.fr ≤ y.tt
                  · rw [if_pos hm] at EM
                    have hW := Lib.hid (Joins.below_alloc2 wr (.cells #[.int .i64 y.fr, .int .i64 y.tt] 36) (.cells #[.int .i64 x.fr, .int .i64 y.tt] 36))
                    have GW := Lib.hid (hQ.out.below hW.out)
                    have HN := Lib.hid (World.news_of_block (heap_alloc_new (wr.alloc (.cells #[.int .i64 y.fr, .int .i64 y.tt] 36)) (.cells #[.int .i64 x.fr, .int .i64 y.tt] 36)))
                    go_wp2_with (at_builtin; refine wpList_append_lies _ rfl _ _ _ rfl w.heap.size 36 i0 _ 2 16 Try.underlying23 HI.out hz0 (by assumption) hz2 rfl (by omega) u5 acc.length (acc.flatMap WindowD.cells) rfl GW.out.1.1 ⟨wr.heap.size + 1, 0, none⟩ 1 1 (WindowD.cells ⟨x.fr, y.tt⟩) (by first | rfl | simp) rfl (by simpa using HN.out) (window_one _) (by omega) (by unfold maxLen; omega) (by omega) (by simp; omega) _ rfl ?_; intro g4 cap4 w4 hown4 hgrow4 hor4 hlt4; have GX := Lib.hid (GW.out.next (x := ⟨x.fr, y.tt⟩) hown4 hgrow4 hor4); clear hown4 hgrow4 hor4 hlt4)
                    go_roundw
                    case rel =>
                      refine ⟨k + 1, by omega, by go_num, Lib.hid ?_⟩
                      rw [ER.out, EM.out, ← List.append_assoc, HA.out]
                      exact GX.out
                    case measure => simp [intOf]; omega
                  · rw [if_neg hm] at EM
                    have hW := Lib.hid (Joins.below_alloc1 wr (.cells #[.int .i64 y.fr, .int .i64 y.tt] 36))
                    have GW := Lib.hid (hQ.out.below hW.out)
                    go_wp2
                    go_roundw
                    case rel =>
                      refine ⟨k + 1, by omega, by go_num, Lib.hid ?_⟩
                      rw [ER.out, EM.out, List.append_nil, HA.out]
                      exact GW.out
                    case measure => simp [intOf]; omega
                · skip
                  have EM := Lib.hid (meetQ (x := x) (y := y) (M := x.fr) (m := x.tt) (by omega) (by omega))
                  by_cases hm : x.fr ≤ x.tt
                  · rw [if_pos hm] at EM
                    have hW := Lib.hid (Joins.below_alloc2 wr (.cells #[.int .i64 y.fr, .int .i64 y.tt] 36) (.cells #[.int .i64 x.fr, .int .i64 x.tt] 36))
                    have GW := Lib.hid (hQ.out.below hW.out)
                    have HN := Lib.hid (World.news_of_block (heap_alloc_new (wr.alloc (.cells #[.int .i64 y.fr, .int .i64 y.tt] 36)) (.cells #[.int .i64 x.fr, .int .i64 x.tt] 36)))
                    go_wp2_with (at_builtin; refine wpList_append_lies _ rfl _ _ _ rfl w.heap.size 36 i0 _ 2 16 Try.underlying23 HI.out hz0 (by assumption) hz2 rfl (by omega) u5 acc.length (acc.flatMap WindowD.cells) rfl GW.out.1.1 ⟨wr.heap.size + 1, 0, none⟩ 1 1 (WindowD.cells ⟨x.fr, x.tt⟩) (by first | rfl | simp) rfl (by simpa using HN.out) (window_one _) (by omega) (by unfold maxLen; omega) (by omega) (by simp; omega) _ rfl ?_; intro g4 cap4 w4 hown4 hgrow4 hor4 hlt4; have GX := Lib.hid (GW.out.next (x := ⟨x.fr, x.tt⟩) hown4 hgrow4 hor4); clear hown4 hgrow4 hor4 hlt4)
                    go_roundw
                    case rel =>
                      refine ⟨k + 1, by omega, by go_num, Lib.hid ?_⟩
                      rw [ER.out, EM.out, ← List.append_assoc, HA.out]
                      exact GX.out
                    case measure => simp [intOf]; omega
                  · rw [if_neg hm] at EM
                    have hW := Lib.hid (Joins.below_alloc1 wr (.cells #[.int .i64 y.fr, .int .i64 y.tt] 36))
                    have GW := Lib.hid (hQ.out.below hW.out)
                    go_wp2
                    go_roundw
                    case rel =>
                      refine ⟨k + 1, by omega, by go_num, Lib.hid ?_⟩
                      rw [ER.out, EM.out, List.append_nil, HA.out]
                      exact GW.out
                    case measure => simp [intOf]; omega
end Go.Proofs.Ytdpidbkkhmombaa
