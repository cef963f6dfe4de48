
/- Lockings in lists: laws.szLocking, szLockingS: contracts; how an argument is opened that is a list of lockings. -/
import Derived.Test.YtlddampjbmklkaaLockings
import Derived.Test.YtlddampjbmklkaaOpen
namespace Go.Proofs.Ytlddampjbmklkaa
open Go.ChangeShapes Go.WideShapes Go.ChangeAt Go.Deep Go.RowKit
set_option maxRecDepth 100000

/-- What is known of a locking that came in. -/
def LockIn (w : World) (r : LockR) : Prop := ∃ A c, r.v = .slice A r.ships.length c ∧ r.ships.length ≤ 9223372036854775807 ∧ (r.ships.length ≤ 1000000000 → SlInt w (.slice A r.ships.length c) r.ships)
theorem LockIn.below {w w' : World} {r : LockR} (h : LockIn w r) (hb : Below w.heap.size w w') : LockIn w' r := by
  obtain ⟨A, c, h1, h2, h3⟩ := h
  exact ⟨A, c, h1, h2, fun hl => (h3 hl).below hb⟩
def LocksIn (w : World) (A : Option Addr) (c : Nat) (rows : List LockR) : Prop := rows.length ≤ 9223372036854775807 ∧ (rows.length ≤ 1000000000 → SlOf 3 LockR.cells w (.slice A rows.length c) rows) ∧ ∀ r ∈ rows, LockIn w r
theorem LocksIn.below {w w' : World} {A : Option Addr} {c : Nat} {rows : List LockR} (h : LocksIn w A c rows) (hb : Below w.heap.size w w') : LocksIn w' A c rows := ⟨h.1, fun hl => SlOf.below (h.2.1 hl) hb, fun r hr => (h.2.2 r hr).below hb⟩
/-- How many ships the lockings hold. -/
def bulkLock : List LockR → Int
  | [] => 0
  | r :: rows => (r.ships.length : Int) + bulkLock rows
theorem bulkLock_pos : ∀ rows : List LockR, 0 ≤ bulkLock rows
  | [] => Int.le_refl _
  | r :: rows => by have := bulkLock_pos rows; show 0 ≤ (r.ships.length : Int) + bulkLock rows; omega
theorem bulkLock_snoc : ∀ (rows : List LockR) (x : LockR), bulkLock (rows ++ [x]) = bulkLock rows + x.ships.length
  | [], x => by simp [bulkLock]
  | r :: rows, x => by
    have := bulkLock_snoc rows x
    show (r.ships.length : Int) + bulkLock (rows ++ [x]) = (r.ships.length : Int) + bulkLock rows + _
    omega
theorem bulkLock_next {rows : List LockR} {k : Nat} {x : LockR} (h : rows[k]? = some x) : bulkLock (rows.take (k + 1)) = bulkLock (rows.take k) + x.ships.length := by rw [take_snoc' rows k x h]; exact bulkLock_snoc _ _
theorem bulkLock_app : ∀ (a b : List LockR), bulkLock (a ++ b) = bulkLock a + bulkLock b
  | [], b => by simp [bulkLock]
  | r :: a, b => by
    have := bulkLock_app a b
    show (r.ships.length : Int) + bulkLock (a ++ b) = (r.ships.length : Int) + bulkLock a + _
    omega
theorem bulkLock_le (rows : List LockR) (k : Nat) : bulkLock (rows.take k) ≤ bulkLock rows := by
  have e := bulkLock_app (rows.take k) (rows.drop k)
  rw [List.take_append_drop] at e
  have := bulkLock_pos (rows.drop k)
  omega
theorem bulkLock_mem {rows : List LockR} {x : LockR} (h : x ∈ rows) : (x.ships.length : Int) ≤ bulkLock rows := by
  obtain ⟨i, hi, e⟩ := List.getElem_of_mem h
  have h1 := bulkLock_next (show rows[i]? = some x by rw [List.getElem?_eq_getElem hi, e])
  have h2 := bulkLock_le rows (i + 1)
  have h3 := bulkLock_pos (rows.take i)
  omega
/-- Lockings that are few enough are read. -/
theorem LocksIn.rd {w : World} {A : Option Addr} {c : Nat} {rows : List LockR} (h : LocksIn w A c rows) (hs : (rows.length : Int) + bulkLock rows ≤ 1048576) : RdLocks w (.slice A rows.length c) rows := by
  have hp := bulkLock_pos rows
  refine ⟨h.2.1 (by omega), fun r hr => ?_⟩
  obtain ⟨A', c', h1, h2, h3⟩ := h.2.2 r hr
  have := bulkLock_mem hr
  rw [h1]
  exact h3 (by omega)
set_option maxHeartbeats 1000000 in
theorem szLocking_any (s : Int) (u : Bool) (A : Option Addr) (c : Nat) (l : List Int) (w : World) (hl : l.length ≤ 9223372036854775807) (h : l.length ≤ 1000000000 → SlInt w (.slice A l.length c) l) (lim : Int) (h0 : 0 ≤ lim) (h1 : lim ≤ 1048576) :
    Calls Try.prog 53 #[.agg #[.int .i64 s, .bool u, .slice A l.length c], .int .i64 lim] w fun e w' => e = .returned (.int .i64 (leftOf lim (l.length : Int))) ∧ Below w.heap.size w w' := by
  obtain ⟨W0, hW0⟩ : ∃ W, W = w.alloc (.cells #[.int .i64 s, .bool u, .slice A l.length c] 83) := ⟨_, rfl⟩
  have hb0 := Joins.below_alloc1 w (.cells #[.int .i64 s, .bool u, .slice A l.length c] 83)
  rw [← hW0] at hb0
  have C := szIntS_any A l c W0 hl (fun hl => (h hl).below hb0) lim h0 h1
  rw [show bulkInt l = 0 from rfl, Int.add_zero] at C
  have HC := Lib.hid C
  have B := Lib.hid hb0
  have HW0 := Lib.hid hW0
  obtain ⟨r, hr⟩ : ∃ r, leftOf lim (l.length : Int) = r := ⟨_, rfl⟩
  rw [hr] at HC ⊢
  have hr1 : r < 0 → r = -1 := fun hn => by
    by_cases hlt : lim < (l.length : Int)
    · rw [leftOf_no hlt] at hr; exact hr.symm
    · rw [leftOf_yes hlt] at hr; omega
  generalize l.length = n at *
  clear hW0 hb0 C h hr
  go_enter Try.func53, Try.ntmps53
  go_wp2_with fail
  rw [← HW0.out]
  refine HC.out.mono ?_
  rintro e w1 ⟨rfl, hb1⟩
  have B1 := Lib.hid (B.out.trans (hb1.mono B.out.size))
  clear hb1
  by_cases hn : r < 0
  · obtain rfl := hr1 hn
    go_wp2
    go_ret
    exact ⟨rfl, B1.out⟩
  · go_wp2
    go_ret
    exact ⟨rfl, B1.out⟩
set_option maxHeartbeats 2000000 in
theorem szLockingS_any (A : Option Addr) (rows : List LockR) (c : Nat) (w : World) (h : LocksIn w A c rows) (lim : Int) (h0 : 0 ≤ lim) (h1 : lim ≤ 1048576) :
    Calls Try.prog 19 #[.slice A rows.length c, .int .i64 lim] w fun e w' => e = .returned (.int .i64 (leftOf lim ((rows.length : Int) + bulkLock rows))) ∧ Below w.heap.size w w' := by
  have hp := bulkLock_pos rows
  obtain ⟨hl, hsl, hin⟩ := h
  by_cases hlt : lim < (rows.length : Int)
  · have E := Lib.hid (leftOf_no (lim := lim) (t := (rows.length : Int) + bulkLock rows) (by omega))
    clear hsl hin hp
    generalize rows.length = n at *
    go_enter Try.func19, Try.ntmps19
    go_wp2
    go_ret
    exact ⟨ret_int E.out.symm, Below.refl _ _⟩
  · obtain ⟨_, hs⟩ := hsl (by omega)
    have HIN := Lib.hid hin
    clear hsl hin
    have w0 : IntKind.i64.wrap (lim - (rows.length : Int)) = lim - (rows.length : Int) := by rw [IntKind.wrap_i64]; omega
    rcases hs with ⟨rfl, A', c', he⟩ | ⟨g, o, c', he, hpos, hcap, hc⟩
    · clear he
      go_enter Try.func19, Try.ntmps19
      go_wp2
      refine wp_loop_rounds 1 ?_
      rw [rounds_succ]
      go_wp2
      go_ret
      exact ⟨ret_int (by rw [leftOf_yes (by simp [bulkLock]; omega)]; simp [bulkLock]), Below.refl _ _⟩
    · injection he with hA _ hcp
      subst hA hcp
      have HC := Lib.hid hc
      clear hc
      go_enter Try.func19, Try.ntmps19
      go_wp2
      go_loopw [1, 5] (fun q i wr => ∃ k : Nat, k ≤ rows.length ∧ i = .int .i64 k ∧ q = .int .i64 (lim - (rows.length : Int) - bulkLock (rows.take k)) ∧ 0 ≤ lim - (rows.length : Int) - bulkLock (rows.take k) ∧ Below w.heap.size w wr) (fun _ i _ => rows.length - (intOf i).toNat)
      case atStart => exact ⟨0, Nat.zero_le _, rfl, by simp [bulkLock], by simp [bulkLock]; omega, Below.refl _ _⟩
      case round =>
        obtain ⟨k, hk, rfl, rfl, hle, hb⟩ := hrel
        have hpk := bulkLock_pos (rows.take k)
        by_cases hkl : k < rows.length
        · obtain ⟨x, hx⟩ : ∃ x, rows[k]? = some x := ⟨_, List.getElem?_eq_getElem hkl⟩
          obtain ⟨q0, q1, q2⟩ := LockR.at HC.out k x hx
          have c0 := cell_onV q0 hb
          have c1 := cell_onV q1 hb
          obtain ⟨Ax, cx, hv, hxl, hxs⟩ := HIN.out x (List.mem_of_getElem? hx)
          have c2 := cell_onV q2 hb
          rw [hv] at c2
          have hn := bulkLock_next hx
          have hl2 := bulkLock_le rows (k + 1)
          obtain ⟨z, hz⟩ : ∃ z, lim - (rows.length : Int) - bulkLock (rows.take k) = z := ⟨_, rfl⟩
          rw [hz] at hle ⊢
          have C := szLocking_any x.start x.up Ax cx x.ships wr hxl (fun h => (hxs h).below hb) z hle (by omega)
          have hzs := hb.size
          obtain ⟨y, hy⟩ : ∃ y, x.ships.length = y := ⟨_, rfl⟩
          rw [hy] at C c2 hn
          clear q0 q1 q2 hx hv hxs hxl
          by_cases hneg : z < (y : Int)
          · have EN := Lib.hid (leftOf_no (lim := lim) (t := (rows.length : Int) + bulkLock rows) (by omega))
            rw [leftOf_no hneg] at C
            have HCC := Lib.hid C
            clear hn hl2 hneg C hy
            go_wp2_with fail
            refine HCC.out.mono ?_
            rintro e w1 ⟨rfl, hb1⟩
            go_wp2
            go_ret
            exact ⟨ret_int EN.out.symm, hb.trans (hb1.mono hzs)⟩
          · rw [leftOf_yes hneg] at C
            have hz2 : ¬ z - (y : Int) < 0 := by omega
            have HCC := Lib.hid C
            clear C hy
            go_wp2_with fail
            refine HCC.out.mono ?_
            rintro e w1 ⟨rfl, hb1⟩
            have B1 := Lib.hid (hb.trans (hb1.mono hzs))
            clear hb1
            go_wp2
            go_roundw
            case rel => exact ⟨k + 1, by omega, by go_num, by rw [hn]; congr 1; omega, by rw [hn]; omega, B1.out⟩
            case measure => simp [intOf]; omega
        · obtain rfl : k = rows.length := by omega
          rw [List.take_length] at hle ⊢
          go_wp2
          go_ret
          exact ⟨ret_int (by rw [leftOf_yes (by omega)]; omega), hb⟩
section
variable {H : Type} {enc : TypeId × Value → H} {w : World} {base : Nat} {held : Bool}
theorem dec_locking (n : Nat) (cs : List Value) (y : DataW H × List MemPlace) (h : DataW.trod enc Try.prog w base (fun _ => true) held n 83 cs = some y) : ∃ d : LockR, cs = d.cells ∧ LockIn w d ∧ (Lit.int .i64 d.start).wf = true := by
  obtain ⟨hl, hf⟩ := struct_cells Try.underlying83 (by kernel_rfl) (by kernel_rfl) h
  obtain ⟨v0, n0, y0, e0, h0⟩ := hf 0 _ rfl
  obtain ⟨v1, n1, y1, e1, h1⟩ := hf 1 _ rfl
  obtain ⟨v2, n2, y2, e2, h2⟩ := hf 2 _ rfl
  obtain ⟨a0, ha0, _, wa0⟩ := DataW.trod_int Try.underlying3 h0
  obtain ⟨a1, ha1, _⟩ := DataW.trod_bool Try.underlying4 h1
  obtain ⟨A2, c2, l2, rfl, m2, s2, -⟩ := open_ints h2
  unfold maxLen at m2
  simp only [List.cons.injEq, and_true] at ha0 ha1
  subst ha0 ha1
  refine ⟨⟨a0, a1, .slice A2 l2.length c2, l2⟩, ?_, ⟨A2, c2, rfl, by simp only; omega, s2⟩, wa0⟩
  match cs, hl with
  | [b0, b1, b2], _ =>
    simp at e0 e1 e2
    subst e0 e1 e2
    rfl
theorem open_lockings_arg {r : Reach} {b0 : Nat} {v : Value} {d : DataW H} {ps : List MemPlace} (hval : Value.okWide Try.prog w r b0 45 v) (hd : DataW.Trod enc Try.prog w 0 (fun _ => true) true 45 v d ps) :
    ∃ A c rows, v = .slice A (List.length rows) c ∧ LocksIn w A c rows ∧ ∀ r ∈ rows, (Lit.int .i64 (LockR.start r)).wf = true := by
  obtain ⟨A, len, cap, rfl⟩ := okWide_slice Try.underlying45 hval
  obtain ⟨fuel, hf⟩ := hd
  obtain ⟨A', c', rows, e, h1, h2, h3⟩ := open_elems LockR.cells 3 (fun d => LockIn w d ∧ (Lit.int .i64 d.start).wf = true) Try.underlying45 (by kernel_rfl) lockRLen (by decide) dec_locking hf
  unfold maxLen at h1
  exact ⟨A', c', rows, e, ⟨by omega, h2, fun r hr => (h3 r hr).1⟩, fun r hr => (h3 r hr).2⟩
end
end Go.Proofs.Ytlddampjbmklkaa
