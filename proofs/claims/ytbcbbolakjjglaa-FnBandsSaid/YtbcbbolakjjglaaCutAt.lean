/- A list of surges with one that begins at a minute: slices.Insert joined, impl.surgesCutAt: contracts. -/
import Derived.Test.YtbcbbolakjjglaaInsert
import Derived.Test.YtbcbbolakjjglaaSurgeAt
namespace Go.Proofs.Ytbcbbolakjjglaa
open Go.RowKit
set_option maxRecDepth 100000

theorem insert_any (base : Nat) (v : Value) (l : List SurgeD) (x : SurgeD) (i vb : Nat) (w : World) (ho : OwnSurge w base v l) (hbw : base ≤ w.heap.size) (hl0 : 0 < l.length) (hl : l.length ≤ 100) (hi0 : 0 < i) (hi : i ≤ l.length) (hx : Blk w vb x.cells.toArray 44) (hne : v.ownBlock ≠ some vb) :
    Calls Try.prog 82 #[v, .int .i64 (i : Int), .slice (some ⟨vb, 0, none⟩) 1 1] w (InsPost base l i x v.ownBlock w) := by
  obtain ⟨g, cap, R, rfl, hbg, hg, h1, h2, h3⟩ := own_block ho hl0
  have hvb : vb ≠ g := fun e => hne (by rw [e]; rfl)
  by_cases e : i = l.length
  · subst e
    exact insert_end base g cap l x vb w ho hbw hl0 hl hx
  · by_cases hr : l.length + 1 ≤ cap
    · exact insert_shift base g cap l x i vb R w hbg hg h3 hl hr h2 hi0 (by omega) hx hvb
    · exact insert_grow base g cap l x i vb R w hbw hg hl (by omega) hi0 (by omega) hx

/-- The list with a surge that begins at t: itself if there is one, else with a copy of the surge at t put in. -/
def cutL (s : List SurgeD) (t : Int) : List SurgeD := if (atS s t).fr = t then s else insL s (lastLe s t s.length + 1) ⟨t, (atS s t).lo, (atS s t).hi⟩
theorem cutL_same {s : List SurgeD} {t : Int} (h : (atS s t).fr = t) : cutL s t = s := if_pos h
theorem cutL_new {s : List SurgeD} {t : Int} (h : (atS s t).fr ≠ t) : cutL s t = insL s (lastLe s t s.length + 1) ⟨t, (atS s t).lo, (atS s t).hi⟩ := if_neg h

/-- Clone, where a variable's cells stay. -/
theorem clone_keep {W : World} {u : Value} {s : List SurgeD} (h : SlSurge W u s) (w0 : World) (hb : Hid (Below W.heap.size W w0)) (b : Nat) (c0 c1 c2 : Value) (k0 : w0.cell? ⟨b, 0, none⟩ = some c0) (k1 : w0.cell? ⟨b, 1, none⟩ = some c1) (k2 : w0.cell? ⟨b, 2, none⟩ = some c2) :
    Calls Try.prog 81 #[u] w0 fun e w1 => ∃ v, e = .returned v ∧ Hid (OwnSurge w1 w0.heap.size v s) ∧ Hid (Below w0.heap.size w0 w1) ∧ w1.cell? ⟨b, 0, none⟩ = some c0 ∧ w1.cell? ⟨b, 1, none⟩ = some c1 ∧ w1.cell? ⟨b, 2, none⟩ = some c2 ∧ Hid (Below W.heap.size W w1) ∧ (∀ o, Hid (Below W.heap.size W (w1.alloc o))) ∧ b < w1.heap.size := by
  refine (cloneSurge u s w0 (h.below hb.out)).mono ?_
  rintro e w1 ⟨v, rfl, ho, hb1⟩
  have hB := hb.out.trans (hb1.mono hb.out.size)
  exact ⟨v, rfl, Lib.hid ho, Lib.hid hb1, cell_on k0 hb1, cell_on k1 hb1, cell_on k2 hb1, Lib.hid hB, fun o => Lib.hid (hB.alloc hB.size o), World.block_lt_of_cell? w1 _ (cell_on k0 hb1)⟩

/-- Insert, where a variable's cells stay. -/
theorem insert_keep {W : World} (v : Value) (l : List SurgeD) (x : SurgeD) (i vb : Nat) (w0 : World) (ho : OwnSurge w0 W.heap.size v l) (hb : Hid (Below W.heap.size W w0)) (hl0 : 0 < l.length) (hl : l.length ≤ 100) (hi0 : 0 < i) (hi : i ≤ l.length) (hx : Blk w0 vb x.cells.toArray 44) (hne : v.ownBlock ≠ some vb) (b : Nat) (c0 c1 c2 : Value) (hbb : v.ownBlock ≠ some b) (k0 : w0.cell? ⟨b, 0, none⟩ = some c0) (k1 : w0.cell? ⟨b, 1, none⟩ = some c1) (k2 : w0.cell? ⟨b, 2, none⟩ = some c2) :
    Calls Try.prog 82 #[v, .int .i64 (i : Int), .slice (some ⟨vb, 0, none⟩) 1 1] w0 fun e w1 => ∃ v', e = .returned v' ∧ Hid (OwnSurge w1 W.heap.size v' (insL l i x)) ∧ w1.cell? ⟨b, 0, none⟩ = some c0 ∧ w1.cell? ⟨b, 1, none⟩ = some c1 ∧ w1.cell? ⟨b, 2, none⟩ = some c2 ∧ Hid (Below W.heap.size W w1) := by
  refine (insert_any W.heap.size v l x i vb w0 ho hb.out.size hl0 hl hi0 hi hx hne).mono ?_
  rintro e w1 ⟨v', rfl, ho', hg⟩
  refine ⟨v', rfl, Lib.hid ho', hg.cell k0 (Ne.symm hbb), hg.cell k1 (Ne.symm hbb), hg.cell k2 (Ne.symm hbb), Lib.hid (hb.out.grown hg hb.out.size (fun k hk => (World.ownsRow.lt ho k hk).1))⟩

set_option maxHeartbeats 4000000 in
theorem cutAt_any (u : Value) (s : List SurgeD) (t : Int) (w : World) (h : SlSurge w u s) (h0 : 0 < s.length) (h6 : s.length ≤ 6) (hx0 : ∀ x, s[0]? = some x → x.fr ≤ t) :
    Calls Try.prog 56 #[u, .int .i64 t] w (NewSurge (cutL s t) w) := by
  have H := Lib.hid h
  have HX0 := Lib.hid hx0
  have hK := lastLe_lt (s := s) (t := t) h0 _ (Nat.le_refl _)
  have hx := atS_of (s := s) (t := t) h0
  have E1 := @cutL_same s t
  have E2 := @cutL_new s t
  obtain ⟨K, eK⟩ : ∃ K, lastLe s t s.length = K := ⟨_, rfl⟩
  rw [eK] at hx hK E2
  have EK := Lib.hid eK
  obtain ⟨x, ex⟩ : ∃ x, atS s t = x := ⟨_, rfl⟩
  rw [ex] at hx E1 E2
  obtain ⟨xa, xl, xh⟩ := x
  obtain ⟨_, h⟩ := h
  rcases h with ⟨rfl, A, c, rfl⟩ | ⟨g, o, c, rfl, hp, hcap, hc⟩
  · exact absurd h0 (by simp)
  obtain ⟨p0, p1, p2⟩ := SlSurge.cells hc K _ hx
  have hg : g < w.heap.size := World.block_lt_of_cell? w ⟨g, o + K * 3, none⟩ p0
  simp only at p0 p1 p2
  clear hc hx eK ex hx0
  by_cases ht : xa = t
  · subst ht
    have E := Lib.hid (E1 rfl)
    clear E1 E2
    go_enter Try.func56, Try.ntmps56
    go_wp2_with fail
    refine (surgeIndex_any _ s xa _ H.out h0 HX0.out).mono ?_
    rw [EK.out]
    rintro e w1 ⟨rfl, rfl⟩
    have HD := Lib.hid (Joins.below_alloc1 w (.cells #[.int .i64 xa, .int .i64 xl, .int .i64 xh] 44))
    go_wp2_with fail
    refine (cloneSurge _ s _ (H.out.below HD.out)).mono ?_
    rintro e w2 ⟨v2, rfl, ho2, hb2⟩
    go_wp2
    go_ret
    refine ⟨_, rfl, ?_, HD.out.trans (hb2.mono (by simp))⟩
    rw [E.out]
    exact own_lo ho2 (by simp)
  · have E := Lib.hid (E2 ht)
    have hd : (xa == t) = false := by simpa using ht
    clear E1 E2
    go_enter Try.func56, Try.ntmps56
    go_wp2_with fail
    refine (surgeIndex_any _ s t _ H.out h0 HX0.out).mono ?_
    rw [EK.out]
    rintro e w1 ⟨rfl, rfl⟩
    have hw1 : IntKind.i64.wrap ((K : Int) + 1) = ((K + 1 : Nat) : Int) := by rw [IntKind.wrap_i64]; omega
    have D1 := Lib.hid (((Below.refl w.heap.size w).alloc (Nat.le_refl _) (.cells #[.int .i64 t, .int .i64 xl, .int .i64 xh] 44)).drew)
    have D2 := Lib.hid ((((Below.refl w.heap.size w).alloc (Nat.le_refl _) (.cells #[.int .i64 t, .int .i64 xl, .int .i64 xh] 44)).alloc (by simp) (.cells #[.int .i64 t, .int .i64 xl, .int .i64 xh] 44)).drew)
    go_wp2
    go_region_held3 (fun w' => w'.cell? ⟨w.heap.size, 0, none⟩ = some (.int .i64 t) ∧ w'.cell? ⟨w.heap.size, 1, none⟩ = some (.int .i64 xl) ∧ w'.cell? ⟨w.heap.size, 2, none⟩ = some (.int .i64 xh) ∧ Hid (Below w.heap.size w w')) (go_keep)
      (first
        | (go_at_call 81; refine (clone_keep H.out _ ?_ w.heap.size (.int .i64 t) (.int .i64 xl) (.int .i64 xh) ?_ ?_ ?_).mono ?_; (simp [*]); (simp [*]); (simp [*]); (simp [*]); rintro e w7 ⟨v7, rfl, ho7, hb7, y0, y1, y2, y3, y4, y5⟩)
        | (go_at_call 82; refine (insert_keep (W := w) _ s ⟨t, xl, xh⟩ (K + 1) _ _ ?_ ?_ h0 (by omega) (by omega) (by omega) ?_ ?_ w.heap.size (.int .i64 t) (.int .i64 xl) (.int .i64 xh) ?_ ?_ ?_ ?_).mono ?_; (first | exact own_lo ho7.out (by simp <;> omega) | exact own_lo (own_below ho7.out (Joins.below_alloc1 _ _)) (by simp <;> omega)); (simp [*]); (first | exact Blk.new _ _ _ | exact Blk.below (Blk.drew (Blk.newAt (by simp) _ _)) hb7.out); (intro e; have l1 := (World.ownsRow.lt ho7.out _ e).1; have l2 := (World.ownsRow.lt ho7.out _ e).2; simp at l1; omega); (intro e; have l1 := (World.ownsRow.lt ho7.out _ e).1; have l2 := (World.ownsRow.lt ho7.out _ e).2; simp at l1; omega); (simp [*]); (simp [*]); (simp [*]); rintro e w8 ⟨v8, rfl, ho8, z0, z1, z2, z3⟩)
        | fail "no arm")
    all_goals
      go_wp2
      go_ret
      refine ⟨_, rfl, ?_, z3.out⟩
      rw [E.out]
      exact ho8.out

end Go.Proofs.Ytbcbbolakjjglaa
