
/- Lockings in lists: laws.eqLocking, eqLockingS, markLockingS, heldLockingS: contracts. -/
import Derived.Test.YtlddampjbmklkaaLockings2
import Derived.StillTailTactics
namespace Go.Proofs.Ytlddampjbmklkaa
open Go.RowKit
set_option maxRecDepth 100000

set_option maxHeartbeats 2000000 in
theorem eqLocking_same (s : Int) (u : Bool) (v1 v2 : Value) (l : List Int) (w : World) (h1 : SlInt w v1 l) (h2 : SlInt w v2 l) :
    Calls Try.prog 62 #[.agg #[.int .i64 s, .bool u, v1], .agg #[.int .i64 s, .bool u, v2]] w fun e w' => e = .returned (.bool true) ∧ Below w.heap.size w w' := by
  have B := Lib.hid (Joins.below_alloc2 w (.cells #[.int .i64 s, .bool u, v1] 38) (.cells #[.int .i64 s, .bool u, v2] 38))
  obtain ⟨W0, hW0⟩ : ∃ W, W = (w.alloc (.cells #[.int .i64 s, .bool u, v1] 38)).alloc (.cells #[.int .i64 s, .bool u, v2] 38) := ⟨_, rfl⟩
  rw [← hW0] at B
  have H1 := Lib.hid (h1.below B.out)
  have H2 := Lib.hid (h2.below B.out)
  have HW0 := Lib.hid hW0
  obtain ⟨A1, c1, rfl⟩ := h1.at
  obtain ⟨A2, c2, rfl⟩ := h2.at
  clear h1 h2 hW0
  go_enter Try.func62, Try.ntmps62
  go_wp2_with fail
  rw [← HW0.out]
  refine (eqIntS_same _ _ l W0 H1.out H2.out).mono ?_
  rintro e w1 ⟨rfl, hb1⟩
  have B1 := Lib.hid (B.out.trans (hb1.mono B.out.size))
  clear hb1
  go_wp2
  go_ret
  exact ⟨rfl, B1.out⟩
set_option maxHeartbeats 2000000 in
theorem eqLockingS_same (va vb : Value) (xs ys : List LockR) (w : World) (ha : RdLocks w va xs) (hb : RdLocks w vb ys) (hd : xs.map LockR.d = ys.map LockR.d) :
    Calls Try.prog 25 #[va, vb] w fun e w' => e = .returned (.bool true) ∧ Below w.heap.size w w' := by
  obtain ⟨ha, hA⟩ := ha
  obtain ⟨hb, hB⟩ := hb
  have hlen : ys.length = xs.length := by have := congrArg List.length hd; simpa using this.symm
  have HA0 := Lib.hid hA
  have HB0 := Lib.hid hB
  have HD := Lib.hid hd
  clear hA hB hd
  obtain ⟨hl, ha⟩ := ha
  obtain ⟨_, hb⟩ := hb
  rcases ha with ⟨ea, A, c, rfl⟩ | ⟨g, o, c, rfl, hp, _, hca⟩
  · have e0 : xs.length = 0 := by rw [ea]; rfl
    rcases hb with ⟨eb, A', c', rfl⟩ | ⟨g', o', c', rfl, hp, _, _⟩
    · go_enter Try.func25, Try.ntmps25
      go_wp2
      refine wp_loop_rounds 1 ?_
      rw [rounds_succ]
      go_wp2
      go_ret
      exact ⟨rfl, Below.refl _ _⟩
    · omega
  · rcases hb with ⟨eb, A', c', rfl⟩ | ⟨g', o', c', rfl, _, _, hcb⟩
    · have e0 : ys.length = 0 := by rw [eb]; rfl
      omega
    · have HA := Lib.hid hca
      have HB := Lib.hid hcb
      rw [hlen]
      have HLEN := Lib.hid hlen
      clear hca hcb hlen
      go_enter Try.func25, Try.ntmps25
      go_wp2
      go_loopw [5] (fun i wr => ∃ k : Nat, k ≤ xs.length ∧ i = .int .i64 k ∧ Below w.heap.size w wr) (fun i _ => xs.length - (intOf i).toNat)
      case atStart => exact ⟨0, Nat.zero_le _, rfl, Below.refl _ _⟩
      case round =>
        obtain ⟨k, hk, rfl, hb⟩ := hrel
        by_cases hlt : k < xs.length
        · obtain ⟨x, hx⟩ : ∃ x, xs[k]? = some x := ⟨_, List.getElem?_eq_getElem hlt⟩
          obtain ⟨y, hy⟩ : ∃ y, ys[k]? = some y := ⟨_, List.getElem?_eq_getElem (by have := HLEN.out; omega)⟩
          have exy : x.d = y.d := by
            have h1 : (xs.map LockR.d)[k]? = some x.d := by rw [List.getElem?_map, hx]; rfl
            have h2 : (ys.map LockR.d)[k]? = some y.d := by rw [List.getElem?_map, hy]; rfl
            rw [HD.out, h2] at h1
            exact (Option.some.inj h1).symm
          obtain ⟨xs_, xu, xv, xl⟩ := x
          obtain ⟨ys_, yu, yv, yl⟩ := y
          simp only [LockR.d, LockD.mk.injEq] at exy
          obtain ⟨rfl, rfl, rfl⟩ := exy
          obtain ⟨p0, p1, p2⟩ := LockR.at HA.out k _ hx
          obtain ⟨q0, q1, q2⟩ := LockR.at HB.out k _ hy
          have a0 := cell_onV p0 hb
          have a1 := cell_onV p1 hb
          have a2 := cell_onV p2 hb
          have b0 := cell_onV q0 hb
          have b1 := cell_onV q1 hb
          have b2 := cell_onV q2 hb
          simp only at a0 a1 a2 b0 b1 b2
          have HXX := Lib.hid (HA0.out _ (List.mem_of_getElem? hx))
          have HYY := Lib.hid (HB0.out _ (List.mem_of_getElem? hy))
          have hX := HXX.out
          have hY := HYY.out
          simp only at hX hY
          obtain ⟨Ax, cx, rfl⟩ := hX.at
          obtain ⟨Ay, cy, rfl⟩ := hY.at
          have HX2 := Lib.hid hX
          have HY2 := Lib.hid hY
          have hbs := hb.size
          clear p0 q0 p1 q1 p2 q2 hx hy hX hY HXX HYY
          go_wp2
          go_still_tail 8, (by kernel_rfl)
          change wpList _ _ _ _ _ wr.drew
          have hd := hb.drew
          generalize wr.drew = w2 at hd ⊢
          have hds := hd.size
          clear a0 b0 a1 b1 a2 b2 hb hbs
          go_wp2_with fail
          refine (eqLocking_same _ _ _ _ xl _ (HX2.out.below hd) (HY2.out.below hd)).mono ?_
          rintro e w3 ⟨rfl, hb3⟩
          have B3 := Lib.hid (hd.trans (hb3.mono hds))
          clear hb3 hd hds
          go_wp2
          go_roundw
          case rel => exact ⟨k + 1, by omega, by go_num, B3.out⟩
          case measure => simp [intOf]; omega
        · go_wp2
          go_ret
          exact ⟨rfl, hb⟩
/-- The mark at which the locking i begins. -/
def kAt (rows : List LockR) (k : Int) (i : Nat) : Int := k + 2 * (i : Int) + bulkLock (rows.take i)
/-- The first j lockings are marked. -/
structure LkM (w wr : World) (rows : List LockR) (k : Int) (g o a b j : Nat) : Prop where
  mrk : ∀ (i : Nat) r, i < j → rows[i]? = some r → wr.cell? ⟨g, o + i * 3, none⟩ = some (.int .i64 (kAt rows k i)) ∧ wr.cell? ⟨g, o + i * 3 + 1, none⟩ = some (.bool ((kAt rows k i + 1) % 3 == 0)) ∧ MarkedV wr r.v r.ships.length (mvInt (kAt rows k i + 2))
  rd : ∀ (i : Nat) r, j ≤ i → rows[i]? = some r → (∃ u, wr.cell? ⟨g, o + i * 3, none⟩ = some u) ∧ (∃ u, wr.cell? ⟨g, o + i * 3 + 1, none⟩ = some u) ∧ SlInt wr r.v r.ships ∧ FreeV wr r.v
  third : ∀ (i : Nat) r, rows[i]? = some r → wr.cell? ⟨g, o + i * 3 + 2, none⟩ = some r.v
  free : ∀ j, wr.frozen? ⟨g, j, none⟩ = false
  touch : TouchR w wr a b
theorem LkM.head {w wr : World} {rows : List LockR} {k : Int} {g o a b j : Nat} {x : LockR} (h : LkM w wr rows k g o a b j) (hx : rows[j]? = some x) (hgr : a ≤ g ∧ g < b) (hap : ∀ r ∈ rows, r.v.ownBlock ≠ some g) {w2 : World}
    (hw2 : w2 = (wr.setCell ⟨g, o + j * 3, none⟩ (.int .i64 (kAt rows k j))).setCell ⟨g, o + j * 3 + 1, none⟩ (.bool ((kAt rows k j + 1) % 3 == 0))) :
    w2.cell? ⟨g, o + j * 3, none⟩ = some (.int .i64 (kAt rows k j)) ∧ w2.cell? ⟨g, o + j * 3 + 1, none⟩ = some (.bool ((kAt rows k j + 1) % 3 == 0)) ∧ LkM w w2 rows k g o a b j := by
  obtain ⟨⟨u0, c0⟩, ⟨u1, c1⟩, -, -⟩ := h.rd j x (Nat.le_refl _) hx
  have far : ∀ (p : Nat), p ≠ o + j * 3 → p ≠ o + j * 3 + 1 → w2.cell? ⟨g, p, none⟩ = wr.cell? ⟨g, p, none⟩ := fun p h1 h2 => by
    rw [hw2, World.cell?_setCell_other _ _ _ _ (by intro he; injection he with _ e2; omega), World.cell?_setCell_other _ _ _ _ (by intro he; injection he with _ e2; omega)]
  have hg : wr.grownBy w2 (some g) := by rw [hw2]; exact grown_set (grown_set (World.grownBy.refl _ _) _) _
  have e0 : w2.cell? ⟨g, o + j * 3, none⟩ = some (.int .i64 (kAt rows k j)) := by
    rw [hw2, World.cell?_setCell_other _ _ _ _ (by intro he; injection he with _ e2; omega)]
    exact World.cell?_setCell_same _ _ _ c0
  have e1 : w2.cell? ⟨g, o + j * 3 + 1, none⟩ = some (.bool ((kAt rows k j + 1) % 3 == 0)) := by
    rw [hw2]
    exact World.cell?_setCell_same (u := u1) _ _ _ (by rw [World.cell?_setCell_other _ _ _ _ (by intro he; injection he with _ e2; omega)]; exact c1)
  refine ⟨e0, e1, ⟨fun i r hi hr => ?_, fun i r hi hr => ?_, fun i r hr => ?_, fun p => ?_, ?_⟩⟩
  · obtain ⟨m1, m2, m3⟩ := h.mrk i r hi hr
    exact ⟨(far _ (by omega) (by omega)).trans m1, (far _ (by omega) (by omega)).trans m2, m3.grown hg (.inr (hap r (List.mem_of_getElem? hr)))⟩
  · obtain ⟨⟨v0, m1⟩, ⟨v1, m2⟩, m3, m4⟩ := h.rd i r hi hr
    refine ⟨?_, ?_, SlOf.grown m3 hg (.inr (hap r (List.mem_of_getElem? hr))), m4.grown hg (.inr (hap r (List.mem_of_getElem? hr)))⟩
    · by_cases e : i = j
      · subst e; exact ⟨_, e0⟩
      · exact ⟨v0, (far _ (by omega) (by omega)).trans m1⟩
    · by_cases e : i = j
      · subst e; exact ⟨_, e1⟩
      · exact ⟨v1, (far _ (by omega) (by omega)).trans m2⟩
  · exact (far _ (by omega) (by omega)).trans (h.third i r hr)
  · rw [hw2]; exact setCell_frozen _ _ _ _ (setCell_frozen _ _ _ _ (h.free p))
  · exact h.touch.trans (touch_grown (v := .slice (some ⟨g, 0, none⟩) 0 0) hg (fun b' hb' => by simp [Value.ownBlock] at hb'; omega))
theorem LkM.tail {w w2 w3 : World} {rows : List LockR} {k : Int} {g o a b j : Nat} {x : LockR} (h : LkM w w2 rows k g o a b j) (hx : rows[j]? = some x) (e0 : w2.cell? ⟨g, o + j * 3, none⟩ = some (.int .i64 (kAt rows k j))) (e1 : w2.cell? ⟨g, o + j * 3 + 1, none⟩ = some (.bool ((kAt rows k j + 1) % 3 == 0)))
    (hm : MarkedV w3 x.v x.ships.length (mvInt (kAt rows k j + 2))) (hg : w2.grownBy w3 x.v.ownBlock) (hap : ∀ r ∈ rows, r.v.ownBlock ≠ some g) (hgl : g < w2.heap.size) (hr : RangeV x.v a b) (hpw : rows.Pairwise (fun a b => ApartV a.v b.v)) : LkM w w3 rows k g o a b (j + 1) := by
  have hxg := hap x (List.mem_of_getElem? hx)
  have key : ∀ {p : Nat} {u : Value}, w2.cell? ⟨g, p, none⟩ = some u → w3.cell? ⟨g, p, none⟩ = some u := fun hc => hg.cell hc (fun e => hxg e.symm)
  have oth : ∀ (i : Nat) r, i ≠ j → rows[i]? = some r → r.v.ownBlock = none ∨ r.v.ownBlock ≠ x.v.ownBlock := fun i r hij hri => by
    obtain ⟨hi1, rfl⟩ := List.getElem?_eq_some_iff.1 hri
    obtain ⟨hj1, rfl⟩ := List.getElem?_eq_some_iff.1 hx
    have HP := List.pairwise_iff_getElem.1 hpw
    rcases Nat.lt_or_gt_of_ne hij with h | h
    · exact (HP i j hi1 hj1 h).ne.2
    · exact (HP j i hj1 hi1 h).ne.1
  refine ⟨fun i r hi hri => ?_, fun i r hi hri => ?_, fun i r hri => key (h.third i r hri), fun p => ?_, h.touch.trans (touch_grown hg hr)⟩
  · by_cases e : i = j
    · subst e
      rw [hx] at hri
      injection hri with hri
      subst hri
      exact ⟨key e0, key e1, hm⟩
    · obtain ⟨m1, m2, m3⟩ := h.mrk i r (by omega) hri
      exact ⟨key m1, key m2, m3.grown hg (oth i r e hri)⟩
  · obtain ⟨⟨v0, m1⟩, ⟨v1, m2⟩, m3, m4⟩ := h.rd i r (by omega) hri
    exact ⟨⟨v0, key m1⟩, ⟨v1, key m2⟩, SlOf.grown m3 hg (oth i r (by omega) hri), m4.grown hg (oth i r (by omega) hri)⟩
  · have : w3.heap[g]? = w2.heap[g]? := hg.block g hgl (fun e => hxg e.symm)
    have h2 := h.free p
    simp only [World.frozen?] at h2 ⊢
    rw [this]; exact h2
end Go.Proofs.Ytlddampjbmklkaa
