
/- Lockings in lists: laws.markLockingS, heldLockingS: contracts; what a new list of lockings gives. -/
import Derived.Test.YtlddampjbmklkaaLockings3
import Derived.Deep.DeepCutAuto
namespace Go.Proofs.Ytlddampjbmklkaa
open Go.RowKit
set_option maxRecDepth 100000

/-- The lockings are marked, one behind the other. -/
def LockMarked (w : World) (v : Value) (rows : List LockR) (k : Int) : Prop :=
  rows = [] ∨ ∃ g o c, v = .slice (some ⟨g, o, none⟩) rows.length c ∧ ∀ (i : Nat) r, rows[i]? = some r → w.cell? ⟨g, o + i * 3, none⟩ = some (.int .i64 (kAt rows k i)) ∧ w.cell? ⟨g, o + i * 3 + 1, none⟩ = some (.bool ((kAt rows k i + 1) % 3 == 0)) ∧ w.cell? ⟨g, o + i * 3 + 2, none⟩ = some r.v ∧ MarkedV w r.v r.ships.length (mvInt (kAt rows k i + 2))
theorem LockMarked.below {w w' : World} {v : Value} {rows : List LockR} {k : Int} (h : LockMarked w v rows k) (hb : Below w.heap.size w w') : LockMarked w' v rows k := by
  rcases h with h | ⟨g, o, c, h1, h2⟩
  · exact .inl h
  · refine .inr ⟨g, o, c, h1, fun i r hr => ?_⟩
    obtain ⟨m1, m2, m3, m4⟩ := h2 i r hr
    exact ⟨cell_onV m1 hb, cell_onV m2 hb, cell_onV m3 hb, m4.below hb⟩
theorem kAt_next {rows : List LockR} {k : Int} {j : Nat} {x : LockR} (h : rows[j]? = some x) : kAt rows k (j + 1) = kAt rows k j + 2 + x.ships.length := by
  unfold kAt
  rw [bulkLock_next h]
  omega
theorem kAt_bound {rows : List LockR} {k : Int} {j : Nat} (hj : j ≤ rows.length) : k ≤ kAt rows k j ∧ kAt rows k j ≤ k + 2 * rows.length + bulkLock rows := by
  unfold kAt
  have := bulkLock_pos (rows.take j)
  have := bulkLock_le rows j
  omega
set_option maxHeartbeats 4000000 in
theorem markLockingS_any (v : Value) (rows : List LockR) (k : Int) (a b : Nat) (w : World) (h : RdLocks w v rows) (hf : FreeV w v) (hfi : ∀ r ∈ rows, FreeV w r.v) (hr : RangeV v a b) (hrs : ∀ r ∈ rows, RangeV r.v a b) (hp : rows.Pairwise (fun a b => ApartV a.v b.v)) (hv : ∀ r ∈ rows, ApartV v r.v)
    (h0 : 0 ≤ k) (h1 : k ≤ 10000000) (h2 : (rows.length : Int) + bulkLock rows ≤ 10000000) :
    Calls Try.prog 29 #[v, .int .i64 k] w fun e w' => e = .returned (.int .i64 (k + 2 * (rows.length : Int) + bulkLock rows)) ∧ LockMarked w' v rows k ∧ TouchR w w' a b := by
  obtain ⟨hs, hin⟩ := h
  obtain ⟨hl, hs⟩ := hs
  have hbp := bulkLock_pos rows
  rcases hs with ⟨e, A, c, rfl⟩ | ⟨g, o, c, rfl, hpos, _, hc⟩
  · have E3 := Lib.hid (show k + 2 * (rows.length : Int) + bulkLock rows = k by rw [e]; simp [bulkLock])
    have E4 := Lib.hid e
    clear e hf hfi hr hrs hp hv hin h2 hbp hl
    go_enter Try.func29, Try.ntmps29
    go_wp2
    refine wp_loop_rounds 1 ?_
    rw [rounds_succ]
    go_wp2
    go_ret
    exact ⟨ret_int E3.out.symm, .inl E4.out, touch_refl _ _ _⟩
  · have hgl : g < w.heap.size := by
      obtain ⟨x, hx⟩ : ∃ x, rows[0]? = some x := ⟨_, List.getElem?_eq_getElem hpos⟩
      exact World.block_lt_of_cell? w _ (LockR.at hc 0 x hx).1
    have hgr := hr g rfl
    have hap : ∀ r ∈ rows, r.v.ownBlock ≠ some g := fun r hr e => hv r hr g rfl e
    have ST := Lib.hid (show LkM w w rows k g o a b 0 from ⟨fun i r hi => absurd hi (by omega), fun i r _ hr => by
      obtain ⟨q0, q1, q2⟩ := LockR.at hc i r hr
      exact ⟨⟨_, q0⟩, ⟨_, q1⟩, hin r (List.mem_of_getElem? hr), hfi r (List.mem_of_getElem? hr)⟩, fun i r hr => (LockR.at hc i r hr).2.2, (hf g rfl).1, touch_refl _ _ _⟩)
    have HRS := Lib.hid hrs
    have HP := Lib.hid hp
    have HAP := Lib.hid hap
    have HGR := Lib.hid hgr
    clear hc hf hfi hr hrs hp hv hin hap hgr
    go_enter Try.func29, Try.ntmps29
    go_wp2
    go_loopw [1, 5] (fun q i wr => ∃ j : Nat, j ≤ rows.length ∧ i = .int .i64 j ∧ q = .int .i64 (kAt rows k j) ∧ Hid (LkM w wr rows k g o a b j)) (fun _ i _ => rows.length - (intOf i).toNat)
    case atStart => exact ⟨0, Nat.zero_le _, rfl, by simp [kAt, bulkLock], ST⟩
    case round =>
      obtain ⟨j, hj, rfl, rfl, hM⟩ := hrel
      by_cases hlt : j < rows.length
      · obtain ⟨x, hx⟩ : ∃ x, rows[j]? = some x := ⟨_, List.getElem?_eq_getElem hlt⟩
        obtain ⟨⟨u0, c0⟩, ⟨u1, d1⟩, -, -⟩ := hM.out.rd j x (Nat.le_refl _) hx
        have f0 : wr.frozen? ⟨g, o + j * 3, none⟩ = false := hM.out.free _
        obtain ⟨w2, hw2⟩ : ∃ W, W = (wr.setCell ⟨g, o + j * 3, none⟩ (.int .i64 (kAt rows k j))).setCell ⟨g, o + j * 3 + 1, none⟩ (.bool ((kAt rows k j + 1) % 3 == 0)) := ⟨_, rfl⟩
        obtain ⟨e0, e1, hM2⟩ := hM.out.head hx HGR.out HAP.out hw2
        have hkb := kAt_bound (k := k) (rows := rows) (j := j) hj
        have hkn := kAt_next (k := k) hx
        have hkb2 := kAt_bound (k := k) (rows := rows) (j := j + 1) hlt
        have c1 : (wr.setCell ⟨g, o + j * 3, none⟩ (.int .i64 (kAt rows k j))).cell? ⟨g, o + j * 3 + 1, none⟩ = some u1 := by
          rw [World.cell?_setCell_other _ _ _ _ (by intro he; injection he with _ e2; omega)]; exact d1
        have f1 : (wr.setCell ⟨g, o + j * 3, none⟩ (.int .i64 (kAt rows k j))).frozen? ⟨g, o + j * 3 + 1, none⟩ = false := setCell_frozen _ _ _ _ (hM.out.free _)
        have c2 : w2.cell? ⟨g, o + j * 3 + 2, none⟩ = some x.v := hM2.third j x hx
        obtain ⟨-, -, hsl, hfr⟩ := hM2.rd j x (Nat.le_refl _) hx
        obtain ⟨Ax, cx, hxv⟩ := hsl.at
        rw [hxv] at c2
        have HSL := Lib.hid hsl
        have HFR := Lib.hid hfr
        have HXV := Lib.hid hxv
        have HM2 := Lib.hid hM2
        have HX := Lib.hid hx
        have E0 := Lib.hid e0
        have E1 := Lib.hid e1
        have hgl2 : g < w2.heap.size := by have := World.block_lt_of_cell? w2 _ e0; exact this
        have hmem := bulkLock_mem (List.mem_of_getElem? hx)
        obtain ⟨z, hz⟩ : ∃ z, kAt rows k j = z := ⟨_, rfl⟩
        have HZ := Lib.hid hz
        rw [hz] at hkb hkn c1 f1 hw2 ⊢
        have HW2 := Lib.hid hw2
        obtain ⟨y, hy⟩ : ∃ y, x.ships.length = y := ⟨_, rfl⟩
        have HYL := Lib.hid hy
        rw [hy] at c2 hkn hmem
        have C := markIntS_any x.v x.ships (z + 1 + 1) w2 hsl (fun g hg => (hfr g hg).1) (by omega) (by omega) (by omega)
        rw [hy, hxv, hy] at C
        have HC := Lib.hid C
        have HKN := Lib.hid hkn
        clear hx d1 e0 e1 hM2 hsl hfr hxv hw2 hz hy C hkn
        go_upto_region 8 with fail
        rw [← HW2.out]
        clear c1 f1 c0 f0
        go_wp2_with fail
        refine HC.out.mono ?_
        rintro e w3 ⟨rfl, hm, hg3⟩
        have M3 := Lib.hid (show LkM w w3 rows k g o a b (j + 1) from HM2.out.tail HX.out E0.out E1.out (by rw [HZ.out, show z + 2 = z + 1 + 1 by omega, HXV.out, HYL.out]; exact hm) (by rw [HXV.out, HYL.out]; exact hg3) HAP.out hgl2 (HRS.out x (List.mem_of_getElem? HX.out)) HP.out)
        clear hm hg3 c2
        go_wp2
        go_roundw
        case rel => exact ⟨j + 1, by omega, by go_num, by rw [HKN.out]; congr 1; omega, M3⟩
        case measure => simp [intOf]; omega
      · obtain rfl : j = rows.length := by omega
        have E := Lib.hid (show kAt rows k rows.length = k + 2 * (rows.length : Int) + bulkLock rows by unfold kAt; rw [List.take_length])
        go_wp2
        go_ret
        exact ⟨ret_int E.out, .inr ⟨g, o, c, rfl, fun i r hr => by
          obtain ⟨m1, m2, m3⟩ := hM.out.mrk i r (List.getElem?_eq_some_iff.1 hr).1 hr
          exact ⟨m1, m2, hM.out.third i r hr, m3⟩⟩, hM.out.touch⟩
end Go.Proofs.Ytlddampjbmklkaa
