
/- Lockings in lists: laws.heldLockingS: contract; what a new list of lockings gives. -/
import Derived.Test.YtlddampjbmklkaaLockings4
namespace Go.Proofs.Ytlddampjbmklkaa
open Go.RowKit
set_option maxRecDepth 100000

/-- The shape of every list of ships. -/
def ShipsShape (rows : List LockR) : Prop := ∀ r ∈ rows, ∃ A c, r.v = .slice A r.ships.length c
set_option maxHeartbeats 4000000 in
theorem heldLockingS_any (v : Value) (rows : List LockR) (A : Option Addr) (c : Nat) (hv : v = .slice A rows.length c) (k : Int) (w : World) (h : LockMarked w v rows k) (hsh : ShipsShape rows)
    (h0 : 0 ≤ k) (h1 : k ≤ 10000000) (h2 : (rows.length : Int) + bulkLock rows ≤ 10000000) :
    Calls Try.prog 36 #[v, .int .i64 k] w fun e w' => e = .returned (.int .i64 (k + 2 * (rows.length : Int) + bulkLock rows)) ∧ Below w.heap.size w w' := by
  subst hv
  have hbp := bulkLock_pos rows
  rcases h with e | ⟨g, o, c', e, hM⟩
  · subst e
    go_enter Try.func36, Try.ntmps36
    go_wp2
    refine wp_loop_rounds 1 ?_
    rw [rounds_succ]
    go_wp2
    go_ret
    exact ⟨ret_int (by simp [bulkLock]), Below.refl _ _⟩
  · have HM := Lib.hid hM
    have HSH := Lib.hid hsh
    injection e with e1 e2 e3
    subst e1 e3
    clear hM hsh e2
    go_enter Try.func36, Try.ntmps36
    go_wp2
    go_loopw [1, 5] (fun q i wr => ∃ j : Nat, j ≤ rows.length ∧ i = .int .i64 j ∧ q = .int .i64 (kAt rows k j) ∧ Hid (Below w.heap.size w wr)) (fun _ i _ => rows.length - (intOf i).toNat)
    case atStart => exact ⟨0, Nat.zero_le _, rfl, by simp [kAt, bulkLock], Lib.hid (Below.refl _ _)⟩
    case round =>
      obtain ⟨j, hj, rfl, rfl, hb⟩ := hrel
      by_cases hlt : j < rows.length
      · obtain ⟨x, hx⟩ : ∃ x, rows[j]? = some x := ⟨_, List.getElem?_eq_getElem hlt⟩
        obtain ⟨m0, m1, m2, m3⟩ := HM.out j x hx
        have c0 := cell_onV m0 hb.out
        have c1 := cell_onV m1 hb.out
        have c2 := cell_onV m2 hb.out
        have MK := Lib.hid (m3.below hb.out)
        have hkb := kAt_bound (k := k) (rows := rows) (j := j) hj
        have hkn := kAt_next (k := k) hx
        have hkb2 := kAt_bound (k := k) (rows := rows) (j := j + 1) hlt
        have hmem := bulkLock_mem (List.mem_of_getElem? hx)
        obtain ⟨Ax, cx, hxv⟩ := HSH.out x (List.mem_of_getElem? hx)
        rw [hxv] at c2 MK
        obtain ⟨z, hz⟩ : ∃ z, kAt rows k j = z := ⟨_, rfl⟩
        rw [hz] at hkb hkn c0 c1 MK ⊢
        rw [hkn] at hkb2
        have HKN := Lib.hid hkn
        obtain ⟨y, hy⟩ : ∃ y, x.ships.length = y := ⟨_, rfl⟩
        rw [hy] at c2 hmem MK hkb2 HKN
        have C := heldIntS_any (.slice Ax y cx) y Ax cx rfl (z + 1 + 1) wr (by rw [show z + 1 + 1 = z + 2 by omega]; exact MK.out) (by omega) (by omega) (by omega)
        have HC := Lib.hid C
        have hng : ¬ z + 1 + 1 + (y : Int) < 0 := by omega
        clear hx m0 m1 m2 m3 MK hxv hz hy C hkn
        go_wp2_with fail
        refine HC.out.mono ?_
        rintro e w2 ⟨rfl, hb2⟩
        have B2 := Lib.hid (hb.out.trans (hb2.mono hb.out.size))
        clear hb2 c0 c1 c2
        go_wp2
        go_roundw
        case rel => exact ⟨j + 1, by omega, by go_num, by rw [HKN.out]; congr 1; omega, B2⟩
        case measure => simp [intOf]; omega
      · obtain rfl : j = rows.length := by omega
        have E := Lib.hid (show kAt rows k rows.length = k + 2 * (rows.length : Int) + bulkLock rows by unfold kAt; rw [List.take_length])
        go_wp2
        go_ret
        exact ⟨ret_int E.out, hb.out⟩
/-! ### For the laws -/
/-- How many ships the lockings name. -/
def bulkD : List LockD → Int
  | [] => 0
  | g :: l => (g.ships.length : Int) + bulkD l
theorem bulkD_map : ∀ rs : List LockR, bulkD (rs.map LockR.d) = bulkLock rs
  | [] => rfl
  | r :: rs => congrArg ((r.ships.length : Int) + ·) (bulkD_map rs)
theorem bulkD_app : ∀ a b : List LockD, bulkD (a ++ b) = bulkD a + bulkD b
  | [], b => by simp [bulkD]
  | g :: a, b => by
    have := bulkD_app a b
    show (g.ships.length : Int) + bulkD (a ++ b) = (g.ships.length : Int) + bulkD a + bulkD b
    omega
theorem bulkD_pos : ∀ l : List LockD, 0 ≤ bulkD l
  | [] => Int.le_refl _
  | g :: l => by have := bulkD_pos l; show 0 ≤ (g.ships.length : Int) + bulkD l; omega
theorem bulkLock_same : ∀ {a b : List LockR}, a.map LockR.d = b.map LockR.d → bulkLock a = bulkLock b
  | [], [], _ => rfl
  | [], _ :: _, h => by simp at h
  | _ :: _, [], h => by simp at h
  | x :: a, y :: b, h => by
    simp only [List.map_cons, List.cons.injEq] at h
    have e : x.ships = y.ships := congrArg LockD.ships h.1
    show (x.ships.length : Int) + bulkLock a = (y.ships.length : Int) + bulkLock b
    rw [e, bulkLock_same h.2]
def FreeRs (w : World) (rows : List LockR) : Prop := ∀ r ∈ rows, FreeV w r.v
def RangeRs (rows : List LockR) (a b : Nat) : Prop := ∀ r ∈ rows, RangeV r.v a b
theorem FreeRs.below {w w' : World} {rows : List LockR} (h : FreeRs w rows) (hb : Below w.heap.size w w') : FreeRs w' rows := fun u hu => (h u hu).below hb
theorem FreeRs.touch {w w' : World} {rows : List LockR} {a b c d : Nat} (h : FreeRs w rows) (ht : TouchR w w' a b) (hr : RangeRs rows c d) (hd : b ≤ c ∨ d ≤ a) : FreeRs w' rows := fun u hu => (h u hu).touch ht (hr u hu) hd
theorem RdLocks.touch {w w' : World} {v : Value} {rows : List LockR} {a b c d : Nat} (h : RdLocks w v rows) (ht : TouchR w w' a b) (hr : RangeV v c d) (hrs : RangeRs rows c d) (hd : b ≤ c ∨ d ≤ a) : RdLocks w' v rows := ⟨SlOf.touch h.1 ht hr hd, fun r hr => SlOf.touch (h.2 r hr) ht (hrs r hr) hd⟩
theorem bulkLock_ships {rows : List LockR} {r : LockR} (h : r ∈ rows) : (r.ships.length : Int) ≤ bulkLock rows := by
  have := bulkLock_mem h
  omega
theorem OwnLocks.parts {w : World} {base : Nat} {v : Value} {rows : List LockR} (h : OwnLocks w base v rows) (h1 : (rows.length : Int) + bulkLock rows ≤ 10000000) :
    (∃ A c, v = .slice A rows.length c) ∧ RdLocks w v rows ∧ FreeV w v ∧ FreeRs w rows ∧ RangeV v base w.heap.size ∧ RangeRs rows base w.heap.size ∧ rows.Pairwise (fun a b => ApartV a.v b.v) ∧ (∀ r ∈ rows, ApartV v r.v) ∧ ShipsShape rows := by
  obtain ⟨ho, hi, hp, hv⟩ := h
  have hbp := bulkLock_pos rows
  refine ⟨own_form ho, ⟨own_sl lockRLen ho (by omega), fun r hr => OwnInt.sl (hi r hr) (by have := bulkLock_ships hr; omega)⟩, own_freeV ho, fun r hr => own_freeV (hi r hr), own_range ho, fun r hr => own_range (hi r hr), hp, hv, fun r hr => own_form (hi r hr)⟩
end Go.Proofs.Ytlddampjbmklkaa
