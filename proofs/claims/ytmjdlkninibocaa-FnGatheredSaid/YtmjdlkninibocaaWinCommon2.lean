
/- CommonWindows of the program and of the model, whole: contracts. -/
import Derived.Test.YtmjdlkninibocaaWinCommon
namespace Go.Proofs.Ytmjdlkninibocaa
open Go.RowKit Go.Shelf
set_option maxRecDepth 100000

theorem commonParts_any (A A' : Option Addr) (n n' c c' : Nat) (w : World) :
    Calls Try.prog 34 #[.slice A n c, .slice A' n' c'] w fun e w' => e = .returned (.func (.func 50) #[] #[.pointer (some ⟨w.heap.size, 0, none⟩), .pointer (some ⟨w.heap.size + 1, 0, none⟩)]) ∧ w' = (w.alloc (.cells #[.slice A n c] 23)).alloc (.cells #[.slice A' n' c'] 23) := by
  go_enter Try.func34, Try.ntmps34
  go_wp2
  go_ret
  exact ⟨rfl, rfl⟩

set_option maxHeartbeats 4000000 in
theorem implCommonWindows (v0 : Value) (l0 : List WindowD) (v1 : Value) (l1 : List WindowD) (w : World) (h0 : SlWindow w v0 l0) (h1 : SlWindow w v1 l1) :
    Calls Try.prog 10 #[v0, v1] w (NewWindow (commonL l0 l1) w) := by
  have H0 := Lib.hid h0
  have H1 := Lib.hid h1
  have hl0 := h0.1
  have hl1 := h1.1
  obtain ⟨A, c, rfl⟩ := h0.at
  obtain ⟨A', c', rfl⟩ := h1.at
  clear h0 h1
  cases hok : winB l0 with
  | false =>
    have E := Lib.hid (commonL_bad (b := l1) hok)
    have HOK := Lib.hid hok
    clear hok
    go_enter Try.func10, Try.ntmps10
    go_wp2_with fail
    refine (implWindowsOk _ l0 _ H0.out).mono ?_
    rw [HOK.out]
    rintro e w1 ⟨rfl, hb1⟩
    have B1 := Lib.hid hb1
    clear hb1
    go_wp2
    go_ret
    exact NewWindow.empty B1.out E.out
  | true =>
    have HOK := Lib.hid hok
    cases hok' : winB l1 with
    | false =>
      have E := Lib.hid (commonL_bad' (a := l0) hok')
      have HOK' := Lib.hid hok'
      clear hok hok'
      go_enter Try.func10, Try.ntmps10
      go_wp2_with fail
      refine (implWindowsOk _ l0 _ H0.out).mono ?_
      rw [HOK.out]
      rintro e w1 ⟨rfl, hb1⟩
      have B1 := Lib.hid hb1
      clear hb1
      go_wp2_with fail
      refine (implWindowsOk _ l1 _ (H1.out.below B1.out)).mono ?_
      rw [HOK'.out]
      rintro e w2 ⟨rfl, hb2⟩
      have B2 := Lib.hid (B1.out.trans (hb2.mono B1.out.size))
      clear hb2
      go_wp2
      go_ret
      exact NewWindow.empty B2.out E.out
    | true =>
      have E := Lib.hid (commonL_ok hok hok')
      have HOK' := Lib.hid hok'
      clear hok hok'
      go_enter Try.func10, Try.ntmps10
      go_wp2_with fail
      refine (implWindowsOk _ l0 _ H0.out).mono ?_
      rw [HOK.out]
      rintro e w1 ⟨rfl, hb1⟩
      have B1 := Lib.hid hb1
      clear hb1
      go_wp2_with fail
      refine (implWindowsOk _ l1 _ (H1.out.below B1.out)).mono ?_
      rw [HOK'.out]
      rintro e w2 ⟨rfl, hb2⟩
      have B2 := Lib.hid (B1.out.trans (hb2.mono B1.out.size))
      clear hb2
      go_wp2_with fail
      refine (commonParts_any _ _ _ _ _ _ _).mono ?_
      rintro e w3 ⟨rfl, hw3⟩
      have hal : Below w2.heap.size w2 w3 := by rw [hw3]; exact Joins.below_alloc2 w2 _ _
      have bx : Blk w3 w2.heap.size #[.slice A l0.length c] 23 := by rw [hw3]; exact (Blk.new _ _ _).below (Joins.below_alloc1 _ _)
      have by' : Blk w3 (w2.heap.size + 1) #[.slice A' l1.length c'] 23 := by rw [hw3]; exact Blk.newAt (by simp) _ _
      have B3 := Lib.hid (B2.out.trans (hal.mono B2.out.size))
      have HS := Lib.hid (common1 A A' c c' l0 l1 w2.heap.size (w2.heap.size + 1) w3 (H0.out.below B3.out) (H1.out.below B3.out) bx.lt by'.lt (bx.cell 0) (by'.cell 0))
      have CC := Lib.hid (collect_any _ _ _ _ _ _ HS.out (Nat.le_refl _) (enters_of Try.func50 (by kernel_rfl) rfl) (by omega))
      clear hw3 hal bx by' HS
      go_wp2_with fail
      refine CC.out.mono ?_
      intro e w4 hnew
      obtain ⟨v4, rfl, h1, h2⟩ := hnew
      have K1 := Lib.hid h1
      have K2 := Lib.hid h2
      obtain ⟨A3, c3, rfl⟩ := own_form h1
      clear h1 h2
      go_wp2
      go_ret
      rw [E.out]
      exact ⟨_, rfl, own_lo K1.out B3.out.size, B3.out.trans (K2.out.mono B3.out.size)⟩

theorem WOk.step {l : List WindowD} (h : WOk l) : ∀ i (hi : i < l.length), 2 * (i : Int) ≤ (l[i]).fr := by
  intro i
  induction i with
  | zero => intro hi; have := h.1 l[0] (List.getElem_mem hi); omega
  | succ i ih =>
    intro hi
    have h1 := ih (by omega)
    have h2 := (List.pairwise_iff_getElem.1 h.2) i (i + 1) (by omega) hi (by omega)
    have h3 := h.1 l[i] (List.getElem_mem (by omega))
    omega
theorem WOk.len {l : List WindowD} (h : WOk l) : l.length ≤ 1441 := by
  rcases Nat.lt_or_ge 1441 l.length with hlt | hge
  · have h1 := h.step 1441 hlt
    have h2 := h.1 l[1441] (List.getElem_mem hlt)
    omega
  · exact hge
theorem rowMeet_len (x : WindowD) (b : List WindowD) : (rowMeet x b).length ≤ b.length := by
  induction b with
  | nil => simp [rowMeet]
  | cons y b ih =>
    have := meet_len x y
    simp only [rowMeet, List.flatMap_cons, List.length_append, List.length_cons] at *
    omega
theorem allMeet_len (b : List WindowD) : ∀ (a : List WindowD) (i : Nat), a.length ≤ i → b.length ≤ 1441 → i ≤ 1441 → (allMeet a b).length ≤ i * 1441 := by
  intro a
  induction a with
  | nil => intro i _ _ _; simp [allMeet]
  | cons x a ih =>
    intro i hi hb h1
    cases i with
    | zero => simp at hi
    | succ i =>
      have := ih i (by simpa using hi) hb (by omega)
      have := rowMeet_len x b
      simp only [allMeet, List.flatMap_cons, List.length_append] at *
      omega
theorem rowMeet_next {b : List WindowD} {k : Nat} {x y : WindowD} (h : b[k]? = some y) : rowMeet x (b.take (k + 1)) = rowMeet x (b.take k) ++ meet x y := by
  unfold rowMeet
  rw [take_snoc' b k y h, List.flatMap_append]
  simp
theorem allMeet_next {a b : List WindowD} {i : Nat} {x : WindowD} (h : a[i]? = some x) : allMeet (a.take (i + 1)) b = allMeet (a.take i) b ++ rowMeet x b := by
  unfold allMeet
  rw [take_snoc' a i x h, List.flatMap_append]
  simp

/-- The list grows in a slot, and a block that the walk laid is not its own. -/
def GathB (w : World) (v : Value) (acc : List WindowD) (B : Nat) (x : WindowD) (wr : World) : Prop :=
  GathW w v acc wr ∧ Blk wr B #[.int .i64 x.fr, .int .i64 x.tt] 36 ∧ v.ownBlock ≠ some B
theorem GathB.start {w wr : World} {v : Value} {acc : List WindowD} (x : WindowD) (h : GathW w v acc wr) : GathB w v acc wr.heap.size x (wr.alloc (.cells #[.int .i64 x.fr, .int .i64 x.tt] 36)) :=
  ⟨h.below (Joins.below_alloc1 _ _), Blk.new _ _ _, fun e => by have := (World.ownsRow.lt h.1 _ e).2; omega⟩
theorem GathB.below {w wr W : World} {v : Value} {acc : List WindowD} {B : Nat} {x : WindowD} (h : GathB w v acc B x wr) (hb : Below wr.heap.size wr W) : GathB w v acc B x W :=
  ⟨h.1.below hb, h.2.1.below hb, h.2.2⟩
theorem GathB.next {w W w4 : World} {v : Value} {acc : List WindowD} {B : Nat} {z x : WindowD} {g4 cap4 : Nat} (h : GathB w v acc B z W)
    (hown : w4.ownsRow w.heap.size 36 2 (.slice (some ⟨g4, 0, none⟩) (acc.length + 1) cap4) (acc.length + 1) (acc.flatMap WindowD.cells ++ x.cells)) (hgr : W.grownBy w4 v.ownBlock) (hor : v.ownBlock = some g4 ∨ g4 = W.heap.size) :
    GathB w (.slice (some ⟨g4, 0, none⟩) (acc.length + 1) cap4) (acc ++ [x]) B z w4 := by
  refine ⟨h.1.next hown hgr, h.2.1.grown hgr (fun e => h.2.2 e.symm), fun e => ?_⟩
  have e' : g4 = B := by simpa [Value.ownBlock] using e
  rcases hor with ho | ho
  · exact h.2.2 (by rw [ho, e'])
  · have := h.2.1.lt; omega

end Go.Proofs.Ytmjdlkninibocaa
