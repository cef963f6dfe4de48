
/- What ExactLockPlanOk and ExactAppendLocking rests on, part 19: contracts and mathematics. -/
import Derived.Test.YtlddampjbmklkaaBl16
import Derived.Test.YtlddampjbmklkaaBl17
import Derived.Test.YtlddampjbmklkaaBl8
import Derived.Test.YtlddampjbmklkaaBl2
import Derived.Test.YtlddampjbmklkaaBl14
import Derived.Test.YtlddampjbmklkaaBl18
import Derived.Test.YtlddampjbmklkaaBl6
namespace Go.Proofs.Ytlddampjbmklkaa
open Go.RowKit
set_option maxRecDepth 100000
/-- The shape of every list of ships. -/
def ShipsShape (rows : List LockR) : Prop := ∀ r ∈ rows, ∃ A c, r.v = .slice A r.ships.length c
set_option maxHeartbeats 4000000 in
theorem heldLockingS_any (v : Value) (rows : List LockR) (A : Option Addr) (c : Nat) (hv : v = .slice A rows.length c) (k : Int) (w : World) (h : LockMarked w v rows k) (hsh : ShipsShape rows)
    (h0 : 0 ≤ k) (h1 : k ≤ 10000000) (h2 : (rows.length : Int) + bulkLock rows ≤ 10000000) :
    Calls Try.prog 36 #[v, .int .i64 k] w fun e w' => e = .returned (.int .i64 (k + 2 * (rows.length : Int) + bulkLock rows)) ∧ Below w.heap.size w w' := by
  subst hv
  have hbp := bulkLock_pos rows
  rcases h with e | ⟨g, o, c', e, hM⟩
  · subst e
    go_enter Try.func36, Try.ntmps36
    go_wp2
    refine wp_loop_rounds 1 ?_
    rw [rounds_succ]
    go_wp2
    go_ret
    exact ⟨ret_int (by simp [bulkLock]), Below.refl _ _⟩
  · have HM := Lib.hid hM
    have HSH := Lib.hid hsh
    injection e with e1 e2 e3
    subst e1 e3
    clear hM hsh e2
    go_enter Try.func36, Try.ntmps36
    go_wp2
    go_loopw [1, 5] (fun q i wr => ∃ j : Nat, j ≤ rows.length ∧ i = .int .i64 j ∧ q = .int .i64 (kAt rows k j) ∧ Hid (Below w.heap.size w wr)) (fun _ i _ => rows.length - (intOf i).toNat)
    case atStart => exact ⟨0, Nat.zero_le _, rfl, by simp [kAt, bulkLock], Lib.hid (Below.refl _ _)⟩
    case round =>
      obtain ⟨j, hj, rfl, rfl, hb⟩ := hrel
      by_cases hlt : j < rows.length
      · obtain ⟨x, hx⟩ : ∃ x, rows[j]? = some x := ⟨_, List.getElem?_eq_getElem hlt⟩
        obtain ⟨m0, m1, m2, m3⟩ := HM.out j x hx
        have c0 := cell_onV m0 hb.out
        have c1 := cell_onV m1 hb.out
        have c2 := cell_onV m2 hb.out
        have MK := Lib.hid (m3.below hb.out)
        have hkb := kAt_bound (k := k) (rows := rows) (j := j) hj
        have hkn := kAt_next (k := k) hx
        have hkb2 := kAt_bound (k := k) (rows := rows) (j := j + 1) hlt
        have hmem := bulkLock_mem (List.mem_of_getElem? hx)
        obtain ⟨Ax, cx, hxv⟩ := HSH.out x (List.mem_of_getElem? hx)
        rw [hxv] at c2 MK
        obtain ⟨z, hz⟩ : ∃ z, kAt rows k j = z := ⟨_, rfl⟩
        rw [hz] at hkb hkn c0 c1 MK ⊢
        rw [hkn] at hkb2
        have HKN := Lib.hid hkn
        obtain ⟨y, hy⟩ : ∃ y, x.ships.length = y := ⟨_, rfl⟩
        rw [hy] at c2 hmem MK hkb2 HKN
        have C := heldIntS_any (.slice Ax y cx) y Ax cx rfl (z + 1 + 1) wr (by rw [show z + 1 + 1 = z + 2 by omega]; exact MK.out) (by omega) (by omega) (by omega)
        have HC := Lib.hid C
        have hng : ¬ z + 1 + 1 + (y : Int) < 0 := by omega
        clear hx m0 m1 m2 m3 MK hxv hz hy C hkn
        go_wp2_with fail
        refine HC.out.mono ?_
        rintro e w2 ⟨rfl, hb2⟩
        have B2 := Lib.hid (hb.out.trans (hb2.mono hb.out.size))
        clear hb2 c0 c1 c2
        go_wp2
        go_roundw
        case rel => exact ⟨j + 1, by omega, by go_num, by rw [HKN.out]; congr 1; omega, B2⟩
        case measure => simp [intOf]; omega
      · obtain rfl : j = rows.length := by omega
        have E := Lib.hid (show kAt rows k rows.length = k + 2 * (rows.length : Int) + bulkLock rows by unfold kAt; rw [List.take_length])
        go_wp2
        go_ret
        exact ⟨ret_int E.out, hb.out⟩
/-- How many ships the lockings name. -/
def bulkD : List LockD → Int
  | [] => 0
  | g :: l => (g.ships.length : Int) + bulkD l
theorem bulkD_map : ∀ rs : List LockR, bulkD (rs.map LockR.d) = bulkLock rs
  | [] => rfl
  | r :: rs => congrArg ((r.ships.length : Int) + ·) (bulkD_map rs)
theorem bulkD_app : ∀ a b : List LockD, bulkD (a ++ b) = bulkD a + bulkD b
  | [], b => by simp [bulkD]
  | g :: a, b => by
    have := bulkD_app a b
    show (g.ships.length : Int) + bulkD (a ++ b) = (g.ships.length : Int) + bulkD a + bulkD b
    omega
theorem bulkD_pos : ∀ l : List LockD, 0 ≤ bulkD l
  | [] => Int.le_refl _
  | g :: l => by have := bulkD_pos l; show 0 ≤ (g.ships.length : Int) + bulkD l; omega
theorem bulkLock_same : ∀ {a b : List LockR}, a.map LockR.d = b.map LockR.d → bulkLock a = bulkLock b
  | [], [], _ => rfl
  | [], _ :: _, h => by simp at h
  | _ :: _, [], h => by simp at h
  | x :: a, y :: b, h => by
    simp only [List.map_cons, List.cons.injEq] at h
    have e : x.ships = y.ships := congrArg LockD.ships h.1
    show (x.ships.length : Int) + bulkLock a = (y.ships.length : Int) + bulkLock b
    rw [e, bulkLock_same h.2]
def FreeRs (w : World) (rows : List LockR) : Prop := ∀ r ∈ rows, FreeV w r.v
def RangeRs (rows : List LockR) (a b : Nat) : Prop := ∀ r ∈ rows, RangeV r.v a b
theorem FreeRs.below {w w' : World} {rows : List LockR} (h : FreeRs w rows) (hb : Below w.heap.size w w') : FreeRs w' rows := fun u hu => (h u hu).below hb
theorem FreeRs.touch {w w' : World} {rows : List LockR} {a b c d : Nat} (h : FreeRs w rows) (ht : TouchR w w' a b) (hr : RangeRs rows c d) (hd : b ≤ c ∨ d ≤ a) : FreeRs w' rows := fun u hu => (h u hu).touch ht (hr u hu) hd
theorem RdLocks.touch {w w' : World} {v : Value} {rows : List LockR} {a b c d : Nat} (h : RdLocks w v rows) (ht : TouchR w w' a b) (hr : RangeV v c d) (hrs : RangeRs rows c d) (hd : b ≤ c ∨ d ≤ a) : RdLocks w' v rows := ⟨SlOf.touch h.1 ht hr hd, fun r hr => SlOf.touch (h.2 r hr) ht (hrs r hr) hd⟩
theorem bulkLock_ships {rows : List LockR} {r : LockR} (h : r ∈ rows) : (r.ships.length : Int) ≤ bulkLock rows := by
  have := bulkLock_mem h
  omega
theorem OwnLocks.parts {w : World} {base : Nat} {v : Value} {rows : List LockR} (h : OwnLocks w base v rows) (h1 : (rows.length : Int) + bulkLock rows ≤ 10000000) :
    (∃ A c, v = .slice A rows.length c) ∧ RdLocks w v rows ∧ FreeV w v ∧ FreeRs w rows ∧ RangeV v base w.heap.size ∧ RangeRs rows base w.heap.size ∧ rows.Pairwise (fun a b => ApartV a.v b.v) ∧ (∀ r ∈ rows, ApartV v r.v) ∧ ShipsShape rows := by
  obtain ⟨ho, hi, hp, hv⟩ := h
  have hbp := bulkLock_pos rows
  refine ⟨own_form ho, ⟨own_sl lockRLen ho (by omega), fun r hr => OwnInt.sl (hi r hr) (by have := bulkLock_ships hr; omega)⟩, own_freeV ho, fun r hr => own_freeV (hi r hr), own_range ho, fun r hr => own_range (hi r hr), hp, hv, fun r hr => own_form (hi r hr)⟩
end Go.Proofs.Ytlddampjbmklkaa
namespace Go.Proofs.Ytlddampjbmklkaa
open Go.RowKit
set_option maxRecDepth 100000
set_option maxHeartbeats 8000000 in
theorem implNextTurn (k : ChamberD) (v : Value) (rows : List LockR) (up : Bool) (ready : Int) (w : World) (h : RdLocks w v rows) :
    Calls Try.prog 12 #[k.val, v, .bool up, .int .i64 ready] w fun e w' => e = .returned (.int .i64 (nextI k (rows.map LockR.d) up ready)) ∧ Below w.heap.size w w' := by
  have RD := Lib.hid h
  have hl := h.1.1
  obtain ⟨A, c, rfl⟩ := h.1.form
  clear h
  obtain ⟨W0, hW0⟩ : ∃ W0, W0 = (w.alloc (.cells #[.int .i64 k.length, .int .i64 k.lanes, .int .i64 k.minutes] 24)) := ⟨_, rfl⟩
  have B := Lib.hid (Joins.below_alloc1 w (.cells #[.int .i64 k.length, .int .i64 k.lanes, .int .i64 k.minutes] 24))
  have Kk := Lib.hid (Blk.new w #[.int .i64 k.length, .int .i64 k.lanes, .int .i64 k.minutes] 24)
  have HW0 := Lib.hid hW0
  rw [← hW0] at B Kk
  clear hW0
  obtain ⟨b1, hb1⟩ : ∃ b, chamB k = b := ⟨_, rfl⟩
  have Hb1 := Lib.hid hb1
  obtain ⟨b2, hb2⟩ : ∃ b, inB ready 0 2880 = b := ⟨_, rfl⟩
  have Hb2 := Lib.hid hb2
  clear hb1 hb2
  go_enter Try.func12, Try.ntmps12
  have vk0 : W0.cell? ⟨w.heap.size, 0, none⟩ = some (.int .i64 k.length) := Kk.out.cell 0
  have vk1 : W0.cell? ⟨w.heap.size, 1, none⟩ = some (.int .i64 k.lanes) := Kk.out.cell 1
  have vk2 : W0.cell? ⟨w.heap.size, 2, none⟩ = some (.int .i64 k.minutes) := Kk.out.cell 2
  go_wp2_with fail
  rw [← HW0.out]
  clear vk0 vk1 vk2
  refine (implChamberOk k _).mono ?_
  rw [Hb1.out]
  rintro e w1 ⟨rfl, hb1⟩
  have B1 := Lib.hid (B.out.trans (hb1.mono B.out.size))
  have Kk_1 := Lib.hid (Kk.out.below hb1)
  clear hb1
  cases b1 with
  | false =>
    have E := Lib.hid (nextI_bad (l := rows.map LockR.d) (up := up) (ready := ready) (show ¬ (chamB k = true ∧ inB ready 0 2880 = true) by rw [Hb1.out]; simp))
    go_wp2
    go_ret
    exact ⟨ret_int E.out.symm, B1.out⟩
  | true =>
  go_wp2_with fail
  refine (isMinute_any _ _).mono ?_
  rw [Hb2.out]
  rintro e w2 ⟨rfl, rfl⟩
  cases b2 with
  | false =>
    have E := Lib.hid (nextI_bad (k := k) (l := rows.map LockR.d) (up := up) (show ¬ (chamB k = true ∧ inB ready 0 2880 = true) by rw [Hb2.out]; simp))
    go_wp2
    go_ret
    exact ⟨ret_int E.out.symm, B1.out⟩
  | true =>
  by_cases h0 : rows.length = 0
  · have E := Lib.hid (nextI_none (up := up) Hb1.out Hb2.out h0)
    have d0 : decide ((rows.length : Int) = 0) = true := decide_eq_true (by omega)
    go_wp2
    go_ret
    exact ⟨ret_int E.out.symm, B1.out⟩
  obtain ⟨x, hx⟩ : ∃ x, rows[rows.length - 1]? = some x := ⟨_, List.getElem?_eq_getElem (by omega)⟩
  have E0 := Lib.hid (nextI_last (up := up) Hb1.out Hb2.out hx)
  obtain ⟨kl0, kl1, ka0, ka1, km0, km1⟩ := chamB_true Hb1.out
  obtain ⟨hs, hin⟩ := RD.out
  obtain ⟨Ax, cx, hxv⟩ := (hin x (List.mem_of_getElem? hx)).at
  rcases hs.2 with ⟨he, _⟩ | ⟨g, o, c', e, lpos, lcap, lc⟩
  · rw [he] at h0; exact absurd rfl h0
  injection e with ea e2 e3
  subst ea e3
  obtain ⟨p0, p1, p2⟩ := LockR.at lc _ x hx
  rw [hxv] at p2
  obtain ⟨n, hn⟩ : ∃ n, rows.length = n + 1 := ⟨rows.length - 1, by omega⟩
  rw [show rows.length - 1 = n by omega] at p0 p1 p2
  rw [hn] at hl
  have y0 := cell_onV p0 B1.out
  have y1 := cell_onV p1 B1.out
  have y2 := cell_onV p2 B1.out
  have vk2 : w1.cell? ⟨w.heap.size, 2, none⟩ = some (.int .i64 k.minutes) := Kk_1.out.cell 2
  obtain ⟨b3, hb3⟩ : ∃ b, inB x.start 0 2880 = b := ⟨_, rfl⟩
  have Hb3 := Lib.hid hb3
  obtain ⟨b4, hb4⟩ : ∃ b, (x.up == up) = b := ⟨_, rfl⟩
  have Hb4 := Lib.hid hb4
  clear hs hin p0 p1 p2 lc lcap lpos e2 hx hxv hb3 hb4
  try rw [hn]
  have d0 : decide (((n + 1 : Nat) : Int) = 0) = false := decide_eq_false (by omega)
  have wsub : IntKind.i64.wrap (((n + 1 : Nat) : Int) - 1) = (n : Int) := by rw [IntKind.wrap_i64]; omega
  go_upto_region 6 with fail
  have BL := Joins.below_alloc1 w1 (.cells #[.int .i64 x.start, .bool x.up, .slice Ax x.ships.length cx] 38)
  have KN := Blk.new w1 #[.int .i64 x.start, .bool x.up, .slice Ax x.ships.length cx] 38
  obtain ⟨w6, hw6⟩ : ∃ w6, w6 = w1.alloc (.cells #[.int .i64 x.start, .bool x.up, .slice Ax x.ships.length cx] 38) := ⟨_, rfl⟩
  rw [← hw6] at BL KN ⊢
  have B6 := Lib.hid (B1.out.trans (BL.mono B1.out.size))
  have z0 : w6.cell? ⟨w1.heap.size, 0, none⟩ = some (.int .i64 x.start) := KN.cell 0
  have z1 : w6.cell? ⟨w1.heap.size, 1, none⟩ = some (.bool x.up) := KN.cell 1
  have z2 : w6.cell? ⟨w.heap.size, 2, none⟩ = some (.int .i64 k.minutes) := cell_onV vk2 BL
  clear hw6 BL KN y0 y1 y2 vk2 d0 wsub
  go_wp2_with fail
  refine (isMinute_any _ _).mono ?_
  rw [Hb3.out]
  rintro e w3 ⟨rfl, rfl⟩
  cases b3 with
  | false =>
    have E := Lib.hid (E0.out.trans (show _ = (-1 : Int) by rw [Hb3.out, if_neg (by simp)]))
    go_wp2
    go_ret
    exact ⟨ret_int E.out.symm, B6.out⟩
  | true =>
  have hin := of_decide_eq_true (show decide (0 ≤ x.start ∧ x.start ≤ 2880) = true from Hb3.out)
  cases b4 with
  | false =>
    have hne : ¬ x.up = up := fun h => by have := Hb4.out; rw [h] at this; simp at this
    have E := Lib.hid (E0.out.trans (show _ = max ready (x.start + k.minutes) by rw [Hb3.out, if_pos rfl, if_neg hne]))
    have q : (x.up == up) = false := Hb4.out
    have wr1 : IntKind.i64.wrap (x.start + k.minutes) = x.start + k.minutes := by rw [IntKind.wrap_i64]; omega
    clear hne
    go_wp2
    all_goals (go_ret; exact ⟨ret_int (by first | exact E.out.symm | (rw [E.out]; omega)), B6.out⟩)
  | true =>
    have he : x.up = up := by simpa using Hb4.out
    have E := Lib.hid (E0.out.trans (show _ = max ready (x.start + 2 * k.minutes) by rw [Hb3.out, if_pos rfl, if_pos he]))
    have q : (x.up == up) = true := Hb4.out
    have wr0 : IntKind.i64.wrap (x.start + k.minutes) = x.start + k.minutes := by rw [IntKind.wrap_i64]; omega
    have wr1 : IntKind.i64.wrap (x.start + k.minutes + k.minutes) = x.start + k.minutes + k.minutes := by rw [IntKind.wrap_i64]; omega
    clear he
    go_wp2
    all_goals (go_ret; exact ⟨ret_int (by first | exact E.out.symm | (rw [E.out]; omega)), B6.out⟩)
end Go.Proofs.Ytlddampjbmklkaa
namespace Go.Proofs.Ytlddampjbmklkaa
open Go.RowKit
set_option maxRecDepth 100000
theorem Liv.none1 (w : World) : Liv w w [(0, .slice none 0 0, [])] := ⟨fun p hp => by obtain rfl := mem1 hp; exact World.ownsRow_nil _ _ _ _, fun p hp q hq hne => absurd ((mem1 hp).trans (mem1 hq).symm) hne, Below.refl _ _⟩
theorem LengTo.fits {k : ChamberD} {fl : List ShipD} {s out : List Int} (h : LengTo fl s s.length out) : fitsO k fl s = (packO k out).isSome := by
  have e := h.all
  by_cases h8 : out.length ≤ 8
  · rw [if_pos h8] at e
    exact fitsO_some e
  · rw [if_neg h8] at e
    rw [fitsO_none e, packO_bad (by rw [lensB_long h8]; simp)]
    rfl
theorem LengTo.fits_no {k : ChamberD} {fl : List ShipD} {s : List Int} {i : Nat} {out : List Int} {n : Int} (h : LengTo fl s i out) (hn : s[i]? = some n) (hb : inB n 0 ((fl.length : Int) - 1) = false ∨ (s.take i).any (· == n) = true) : fitsO k fl s = false := fitsO_none (h.no hn hb)
set_option maxHeartbeats 8000000 in
theorem implCanLock (k : ChamberD) (vf vs : Value) (fl : List ShipD) (s : List Int) (w : World) (hf : SlShip w vf fl) (hs : SlInt w vs s) (hn : s.length ≤ 9000000) :
    Calls Try.prog 47 #[k.val, vf, vs] w fun e w' => e = .returned (.bool (fitsO k fl s)) ∧ Below w.heap.size w w' := by
  obtain ⟨W0, hW0⟩ : ∃ W0, W0 = (w.alloc (.cells #[.int .i64 k.length, .int .i64 k.lanes, .int .i64 k.minutes] 24)) := ⟨_, rfl⟩
  have B := Lib.hid (Joins.below_alloc1 w (.cells #[.int .i64 k.length, .int .i64 k.lanes, .int .i64 k.minutes] 24))
  have Kk := Lib.hid (Blk.new w #[.int .i64 k.length, .int .i64 k.lanes, .int .i64 k.minutes] 24)
  have HW0 := Lib.hid hW0
  rw [← hW0] at B Kk
  clear hW0
  have HF := Lib.hid (hf.below B.out)
  have HS := Lib.hid (hs.below B.out)
  have hfl := hf.1
  obtain ⟨Af, cf, rfl⟩ := hf.at
  obtain ⟨As, cs, rfl⟩ := hs.at
  have hcap : 0 < s.length → s.length ≤ cs := fun h0 => by
    rcases hs.2 with ⟨he, _⟩ | ⟨g, o, c, e, _, hc, _⟩
    · rw [he] at h0; simp at h0
    · injection e with _ _ e3; omega
  have HCAP := Lib.hid hcap
  obtain ⟨m, hm⟩ : ∃ m, s.length = m := ⟨_, rfl⟩
  have HM := Lib.hid hm
  obtain ⟨nf, hnf⟩ : ∃ m, fl.length = m := ⟨_, rfl⟩
  have HNF := Lib.hid hnf
  rw [hnf] at hfl
  rw [hm] at hn
  have L0 := Lib.hid (Liv.none1 W0)
  clear hf hs hcap
  try rw [hm]
  try rw [hnf]
  clear hm hnf
  go_enter Try.func47, Try.ntmps47
  go_wp2
  rw [← HW0.out]
  go_loopw [7, 14] (fun q t wr => ∃ (i : Nat) (u : Value) (out : List Int), i ≤ m ∧ out.length = i ∧ q = u ∧ t = .int .i64 (i : Int) ∧ Hid (LengTo fl s i out) ∧ Hid (Liv W0 wr [(0, u, out)])) (fun _ t _ => m - (intOf t).toNat)
  case atStart => exact ⟨0, _, [], Nat.zero_le _, rfl, rfl, rfl, Lib.hid (LengTo.zero _ _), L0⟩
  case round =>
    obtain ⟨i, u, out, hi, hoi, rfl, rfl, hT, hL⟩ := hrel
    have hzs := hL.out.low.size
    have BR := Lib.hid (B.out.trans (hL.out.low.mono B.out.size))
    by_cases hlt : i < m
    rotate_left
    · obtain rfl : i = m := by omega
      have HO := Lib.hid (OwnInt.sl (hL.out.own _ List.mem_cons_self) (by show out.length ≤ _; omega))
      have KR := Lib.hid (Kk.out.below hL.out.low)
      have E := Lib.hid (LengTo.fits (k := k) (by rw [HM.out]; exact hT.out))
      have vk0 : wr.cell? ⟨w.heap.size, 0, none⟩ = some (.int .i64 k.length) := KR.out.cell 0
      have vk1 : wr.cell? ⟨w.heap.size, 1, none⟩ = some (.int .i64 k.lanes) := KR.out.cell 1
      have vk2 : wr.cell? ⟨w.heap.size, 2, none⟩ = some (.int .i64 k.minutes) := KR.out.cell 2
      clear hoi
      go_wp2_with fail
      clear vk0 vk1 vk2
      refine (implPackShips k _ out _ HO.out).mono ?_
      rw [← E.out]
      rintro e w8 ⟨v8, rfl, -, hb8⟩
      have B8 := Lib.hid (BR.out.trans (hb8.mono BR.out.size))
      clear hb8
      go_wp2
      go_ret
      exact ⟨rfl, B8.out⟩
    have hcap := HCAP.out (by rw [HM.out]; omega)
    rw [HM.out] at hcap
    obtain ⟨n, hx⟩ : ∃ n, s[i]? = some n := ⟨_, List.getElem?_eq_getElem (by have := HM.out; omega)⟩
    have HX := Lib.hid hx
    have TK := Lib.hid (SlOf.takeP (k := i) (HS.out.below hL.out.low) (by have := HM.out; omega))
    rcases HS.out.2 with ⟨he, _⟩ | ⟨gl, ol, cl', e, lpos, lcap, lc⟩
    · rw [he] at hx; simp at hx
    injection e with ea e2 e3
    subst ea
    clear e2 e3 lpos lcap
    have yx := cell_onV (SlInt.cells lc i n hx) hL.out.low
    clear lc hx
    obtain ⟨b1, hb1⟩ : ∃ b, inB n 0 ((nf : Int) - 1) = b := ⟨_, rfl⟩
    have Hb1 := Lib.hid hb1
    obtain ⟨b2, hb2⟩ : ∃ b, (s.take i).any (· == n) = b := ⟨_, rfl⟩
    have Hb2 := Lib.hid hb2
    have CH := Lib.hid (fun (v : Value) (w : World) (h : SlInt w v (s.take i)) => by have := contains_any v (s.take i) n w h; rw [hb2] at this; exact this)
    clear hb1 hb2
    go_wp2_with fail
    refine (isIndex_any _ _ _).mono ?_
    rw [Hb1.out]
    rintro e w3 ⟨rfl, rfl⟩
    cases b1 with
    | false =>
      have E := Lib.hid (hT.out.fits_no (k := k) HX.out (.inl (by rw [HNF.out]; exact Hb1.out)))
      go_wp2
      go_ret
      exact ⟨ret_bool E.out.symm, BR.out⟩
    | true =>
    go_wp2_with fail
    refine (CH.out _ _ TK.out).mono ?_
    rintro e w3 ⟨rfl, rfl⟩
    cases b2 with
    | true =>
      have E := Lib.hid (hT.out.fits_no (k := k) HX.out (.inr Hb2.out))
      go_wp2
      go_ret
      exact ⟨ret_bool E.out.symm, BR.out⟩
    | false =>
    have hin := of_decide_eq_true (show decide (0 ≤ n ∧ n ≤ (nf : Int) - 1) = true from Hb1.out)
    obtain ⟨j, rfl⟩ : ∃ j : Nat, n = (j : Int) := ⟨n.toNat, by omega⟩
    obtain ⟨x, hx⟩ : ∃ x, fl[j]? = some x := ⟨_, List.getElem?_eq_getElem (by have := HNF.out; omega)⟩
    have HT := Lib.hid (hT.out.next HX.out (by rw [HNF.out]; exact Hb1.out) Hb2.out (x := x) (by simpa using hx))
    rcases HF.out.2 with ⟨he, _⟩ | ⟨gf, of, cf', e, fpos, fcap, fc⟩
    · rw [he] at hx; simp at hx
    injection e with ea e2 e3
    subst ea
    clear e2 e3 fpos fcap
    have yf := cell_onV (SlShip.cells fc j x hx).2.1 hL.out.low
    have L2 := Liv.build hL.out 1 [x.length] (by simp)
    have HNEW := Lib.hid (OwnInt.sl (L2.own _ List.mem_cons_self) (by simp))
    have L2 := Lib.hid L2
    clear fc hx yx
    go_wp2_with (at_builtin; refine wpList_plain rfl fun K hK => wp_of_step (ops := #[]) rfl (step_liv L2.out (L' := []) (τ := 0) (v := u7) (u := .slice (some ⟨wr.heap.size, 0, none⟩) 1 1) (l := out) (m := [x.length]) 0 rfl (.tmp 31) (.tmp 37) rfl rfl rfl (List.mem_cons_of_mem _ List.mem_cons_self) HNEW.out (by simp; omega) (fun q hq => by cases hq) ?_); intro v5 x5 hl5; refine hK _ _ ?_; have L5 := Lib.hid hl5; clear hl5)
    go_roundw
    case rel => exact ⟨i + 1, _, _, by omega, by simp [hoi], rfl, by go_num, HT, L5⟩
    case measure => simp [intOf]; omega
end Go.Proofs.Ytlddampjbmklkaa
