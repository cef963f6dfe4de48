
/- What ExactLockPlanOk and ExactAppendLocking rests on, part 8: contracts and mathematics. -/
import Derived.Test.YtlddampjbmklkaaBl6
import Derived.Test.YtlddampjbmklkaaBl0
import Derived.Test.YtlddampjbmklkaaBl3
import Derived.Test.YtlddampjbmklkaaBl1
import Derived.StillTailTactics
import Derived.Deep.RegionHeld3
import Derived.Deep.DeepCutAuto
import Derived.Test.YtlddampjbmklkaaBl7
namespace Go.Proofs.Ytlddampjbmklkaa
set_option maxRecDepth 100000
theorem laneP_over {L n : Int} {us : List Int} {rest : List Int → Option (List Int)} {j m : Nat} (h : ¬ us.getD j 0 + n ≤ L) : laneR L n us rest j (m + 1) = laneR L n us rest (j + 1) m := by
  conv => lhs; unfold laneR
  rw [if_neg h]
theorem laneP_no {L n : Int} {us : List Int} {rest : List Int → Option (List Int)} {j m : Nat} (h : us.getD j 0 + n ≤ L) (hr : rest (us.set j (us.getD j 0 + n)) = none) : laneR L n us rest j (m + 1) = laneR L n us rest (j + 1) m := by
  conv => lhs; unfold laneR
  rw [if_pos h, hr]
theorem laneP_yes {L n : Int} {us : List Int} {rest : List Int → Option (List Int)} {j m : Nat} {out : List Int} (h : us.getD j 0 + n ≤ L) (hr : rest (us.set j (us.getD j 0 + n)) = some out) : laneR L n us rest j (m + 1) = some ((j : Int) :: out) := by
  unfold laneR
  rw [if_pos h, hr]
theorem laneP_none {L n : Int} {us : List Int} {rest : List Int → Option (List Int)} : ∀ {m j : Nat}, (∀ i, j ≤ i → i < j + m → us.getD i 0 + n ≤ L → rest (us.set i (us.getD i 0 + n)) = none) → laneR L n us rest j m = none
  | 0, _, _ => rfl
  | m + 1, j, h => by
    by_cases hf : us.getD j 0 + n ≤ L
    · rw [laneP_no hf (h j (Nat.le_refl _) (by omega) hf)]
      exact laneP_none fun i h1 h2 => h i (by omega) (by omega)
    · rw [laneP_over hf]
      exact laneP_none fun i h1 h2 => h i (by omega) (by omega)
/-- Two labels exchanged. -/
def swapI (i j : Nat) (x : Int) : Int := if x = (i : Int) then (j : Int) else if x = (j : Int) then (i : Int) else x
def swapN (i j k : Nat) : Nat := if k = i then j else if k = j then i else k
theorem swap_hit (i j k : Nat) (x : Int) : swapI i j x = (k : Int) ↔ x = (swapN i j k : Int) := by
  unfold swapI swapN
  have k1 : ((if k = i then j else if k = j then i else k : Nat) : Int) = if k = i then (j : Int) else if k = j then (i : Int) else (k : Int) := by
    split
    · rfl
    · split <;> rfl
  rw [k1]
  split <;> split <;> (try split) <;> (try split) <;> omega
theorem sumIn_swap (i j : Nat) : ∀ (l s : List Int) (k : Nat), sumIn l (s.map (swapI i j)) k = sumIn l s (swapN i j k)
  | [], s, k => by simp [sumIn]
  | a :: l, [], k => by simp [sumIn]
  | a :: l, b :: s, k => by
    have ih := sumIn_swap i j l s k
    show (if swapI i j b = (k : Int) then a else 0) + sumIn l (s.map (swapI i j)) k = (if b = (swapN i j k : Int) then a else 0) + sumIn l s (swapN i j k)
    rw [ih]
    by_cases e : b = (swapN i j k : Int)
    · rw [if_pos e, if_pos ((swap_hit i j k b).2 e)]
    · rw [if_neg e, if_neg (fun h => e ((swap_hit i j k b).1 h))]
/-- Where a ship cannot begin one empty lane, it cannot begin another one. -/
theorem empty_same {L x : Int} {n : Nat} {l us : List Int} {i j : Nat} (hl : us.length = n) (hi : i < n) (hj : j < n) (hij : i ≠ j) (ui : us.getD i 0 = 0) (uj : us.getD j 0 = 0) (hu : ∀ k, k < n → us.getD k 0 ≤ L) (hx : x ≤ L) (hn : ∀ y ∈ l, 0 ≤ y)
    (h : packR L n l (us.set j x) = none) : packR L n l (us.set i x) = none := by
  cases hp : packR L n l (us.set i x) with
  | none => rfl
  | some s =>
    exfalso
    obtain ⟨h1, h2, h3⟩ := packR_fits (by simpa using hl) (fun k hk => by
      by_cases e : i = k
      · subst e; rw [getD_set_same _ _ _ (by omega)]; exact hx
      · rw [getD_set_other _ _ e]; exact hu k hk) hp
    refine packR_none (s := s.map (swapI i j)) (by simpa using hl) hn h ⟨by simpa using h1, fun y hy => ?_, fun k hk => ?_⟩
    · obtain ⟨z, hz, rfl⟩ := List.mem_map.1 hy
      have := h2 z hz
      unfold swapI
      split
      · omega
      · split <;> omega
    · rw [sumIn_swap]
      have hsk : swapN i j k < n := by unfold swapN; split; omega; split <;> omega
      have h4 := h3 (swapN i j k) hsk
      have e : (us.set j x).getD k 0 = (us.set i x).getD (swapN i j k) 0 := by
        unfold swapN
        by_cases e1 : k = i
        · subst e1
          rw [if_pos rfl, getD_set_other _ _ (fun e => hij e.symm), getD_set_other _ _ hij, ui, uj]
        · rw [if_neg e1]
          by_cases e2 : k = j
          · subst e2
            rw [if_pos rfl, getD_set_same _ _ _ (by omega), getD_set_same _ _ _ (by omega)]
          · rw [if_neg e2, getD_set_other _ _ (fun e => e2 e.symm), getD_set_other _ _ (fun e => e1 e.symm)]
      rw [e]
      exact h4
end Go.Proofs.Ytlddampjbmklkaa
namespace Go.Proofs.Ytlddampjbmklkaa
open Go.RowKit
set_option maxRecDepth 100000
set_option maxHeartbeats 4000000 in
theorem implChamberOk (k : ChamberD) (w : World) : Calls Try.prog 42 #[k.val] w fun e w' => e = .returned (.bool (chamB k)) ∧ Below w.heap.size w w' := by
  have E := Lib.hid (show chamB k = decide (10 ≤ k.length ∧ k.length ≤ 1000 ∧ 1 ≤ k.lanes ∧ k.lanes ≤ 3 ∧ 1 ≤ k.minutes ∧ k.minutes ≤ 120) by
    unfold chamB inB
    rw [← Bool.decide_and, ← Bool.decide_and, decide_eq_decide]
    omega)
  have B := Lib.hid (Joins.below_alloc1 w (.cells #[.int .i64 k.length, .int .i64 k.lanes, .int .i64 k.minutes] 24))
  go_enter Try.func42, Try.ntmps42
  go_wp2
  all_goals (go_ret; exact ⟨ret_bool (by first | (rw [E.out, decide_eq_decide]; omega) | (rw [E.out]; exact (decide_eq_false (by omega)).symm) | (rw [E.out]; exact (decide_eq_true (by omega)).symm)), B.out⟩)
/-- The length is not right. -/
def offB (n : Int) : Bool := !inB n 1 400
set_option maxHeartbeats 2000000 in
theorem lengthsOk1 (n : Int) (w : World) : Calls Try.prog 97 #[.int .i64 n] w fun e w' => e = .returned (.bool (offB n)) ∧ w' = w := by
  have E := Lib.hid (show offB n = decide (n < 1 ∨ 400 < n) by
    unfold offB inB
    rw [← decide_not, decide_eq_decide]
    omega)
  go_enter Try.func97, Try.ntmps97
  go_wp2
  all_goals (go_ret; exact ⟨ret_bool (by first | (rw [E.out, decide_eq_decide]; omega) | (rw [E.out]; exact (decide_eq_false (by omega)).symm) | (rw [E.out]; exact (decide_eq_true (by omega)).symm) | (rw [E.out]; simp)), rfl⟩)
set_option maxHeartbeats 4000000 in
theorem indexOff (v : Value) (l : List Int) (w : World) (h : SlInt w v l) :
    Calls Try.prog 98 #[v, .func (.func 97) #[] #[]] w fun e w' => e = .returned (.int .i64 (firstI offB l)) ∧ Below w.heap.size w w' := by
  have hl := h.1
  have HS := Lib.hid h
  obtain ⟨A1, c1, rfl⟩ := SlOf.form h
  clear h
  go_enter Try.func98, Try.ntmps98
  go_wp2
  go_loopw [8] (fun i wr => ∃ k : Nat, k ≤ l.length ∧ i = .int .i64 (k : Int) ∧ Hid (NoOne offB l k) ∧ Hid (Below w.heap.size w wr)) (fun i _ => l.length - (intOf i).toNat)
  case atStart => exact ⟨0, Nat.zero_le _, rfl, Lib.hid (NoOne.zero _ _), Lib.hid (Below.refl _ _)⟩
  case round =>
    obtain ⟨k, hk, rfl, hN, hb⟩ := hrel
    by_cases hlt : k < l.length
    rotate_left
    · obtain rfl : k = l.length := by omega
      have E := Lib.hid (firstI_none hN.out)
      go_wp2
      go_ret
      exact ⟨ret_int E.out.symm, hb.out⟩
    obtain ⟨n, hn⟩ : ∃ n, l[k]? = some n := ⟨_, List.getElem?_eq_getElem hlt⟩
    rcases HS.out.2 with ⟨he, _⟩ | ⟨g, o, c, e, hpos, hcap, hc⟩
    · rw [he] at hlt; simp at hlt
    injection e with hA' _ hcp
    subst hA' hcp
    have y0 := cell_onV (SlInt.cells hc k n hn) hb.out
    have HN := Lib.hid hn
    obtain ⟨t, ht⟩ : ∃ t, offB n = t := ⟨_, rfl⟩
    have HT := Lib.hid ht
    clear hn ht hc
    go_wp2_with fail
    refine (lengthsOk1 _ _).mono ?_
    rw [HT.out]
    rintro e wz ⟨rfl, rfl⟩
    clear y0
    cases t with
    | true =>
      have E := Lib.hid (firstI_at hN.out HN.out HT.out)
      go_wp2
      go_ret
      exact ⟨ret_int E.out.symm, hb.out⟩
    | false =>
      have N2 := Lib.hid (hN.out.next HN.out HT.out)
      go_wp2
      go_roundw
      case rel => exact ⟨k + 1, by omega, by go_num, N2, hb⟩
      case measure => simp [intOf]; omega
set_option maxHeartbeats 2000000 in
theorem containsOff (v : Value) (l : List Int) (w : World) (h : SlInt w v l) :
    Calls Try.prog 96 #[v, .func (.func 97) #[] #[]] w fun e w' => e = .returned (.bool (decide (0 ≤ firstI offB l))) ∧ Below w.heap.size w w' := by
  have C := Lib.hid (indexOff v l w h)
  obtain ⟨i, hi⟩ : ∃ i, firstI offB l = i := ⟨_, rfl⟩
  have HI := Lib.hid hi
  rw [hi]
  obtain ⟨A1, c1, rfl⟩ := SlOf.form h
  clear h hi
  go_enter Try.func96, Try.ntmps96
  go_wp2_with fail
  refine C.out.mono ?_
  rw [HI.out]
  rintro e w1 ⟨rfl, hb1⟩
  have B1 := Lib.hid hb1
  clear hb1
  go_wp2
  go_ret
  exact ⟨rfl, B1.out⟩
theorem lensB_first (l : List Int) (h : l.length ≤ 8) : lensB l = !decide (0 ≤ firstI offB l) := by
  unfold lensB firstI
  rw [decide_eq_true h, Bool.true_and]
  cases hf : l.findIdx? offB with
  | none =>
    rw [List.findIdx?_eq_none_iff] at hf
    have : l.all (fun n => inB n 1 400) = true := by
      rw [List.all_eq_true]
      intro x hx
      have := hf x hx
      unfold offB at this
      simpa using this
    rw [this]
    rfl
  | some i =>
    have h1 := List.findIdx?_eq_some_iff_getElem.1 hf
    obtain ⟨hi, h2, -⟩ := h1
    have : l.all (fun n => inB n 1 400) = false := by
      rw [List.all_eq_false]
      refine ⟨l[i], List.getElem_mem hi, ?_⟩
      unfold offB at h2
      simpa using h2
    rw [this]
    have h0 : (0 : Int) ≤ (i : Int) := by omega
    rw [decide_eq_true h0]
    rfl
set_option maxHeartbeats 4000000 in
theorem implLengthsOk (v : Value) (l : List Int) (w : World) (h : SlInt w v l) : Calls Try.prog 91 #[v] w fun e w' => e = .returned (.bool (lensB l)) ∧ Below w.heap.size w w' := by
  have hl := h.1
  have HS := Lib.hid h
  obtain ⟨A1, c1, rfl⟩ := SlOf.form h
  clear h
  by_cases h8 : l.length ≤ 8
  rotate_left
  · have E := Lib.hid (lensB_long h8)
    obtain ⟨m, hm⟩ : ∃ m, l.length = m := ⟨_, rfl⟩
    rw [hm] at h8 hl ⊢
    clear hm
    have h8' : decide ((m : Int) ≤ 8) = false := decide_eq_false (by omega)
    go_enter Try.func91, Try.ntmps91
    go_wp2
    go_ret
    exact ⟨ret_bool E.out.symm, Below.refl _ _⟩
  have C := Lib.hid (containsOff _ l w HS.out)
  have E0 := lensB_first l h8
  obtain ⟨b, hb⟩ : ∃ b, decide (0 ≤ firstI offB l) = b := ⟨_, rfl⟩
  have HB := Lib.hid hb
  rw [hb] at E0
  have E := Lib.hid E0
  obtain ⟨m, hm⟩ : ∃ m, l.length = m := ⟨_, rfl⟩
  rw [hm] at h8 hl C ⊢
  have h8' : decide ((m : Int) ≤ 8) = true := decide_eq_true (by omega)
  clear hm hb E0
  go_enter Try.func91, Try.ntmps91
  go_wp2_with fail
  refine C.out.mono ?_
  rw [HB.out]
  rintro e w1 ⟨rfl, hb1⟩
  have B1 := Lib.hid hb1
  clear hb1
  cases b with
  | true =>
    go_wp2
    go_ret
    exact ⟨ret_bool (by rw [E.out]; rfl), B1.out⟩
  | false =>
    go_wp2
    go_ret
    exact ⟨ret_bool (by rw [E.out]; rfl), B1.out⟩
set_option maxHeartbeats 4000000 in
theorem implCanPack (k : ChamberD) (v : Value) (l : List Int) (w : World) (h : SlInt w v l) : Calls Try.prog 85 #[k.val, v] w fun e w' => e = .returned (.bool (chamB k && lensB l)) ∧ Below w.heap.size w w' := by
  obtain ⟨W0, hW0⟩ : ∃ W0, W0 = (w.alloc (.cells #[.int .i64 k.length, .int .i64 k.lanes, .int .i64 k.minutes] 24)) := ⟨_, rfl⟩
  have B := Lib.hid (Joins.below_alloc1 w (.cells #[.int .i64 k.length, .int .i64 k.lanes, .int .i64 k.minutes] 24))
  have K := Lib.hid (Blk.new w #[.int .i64 k.length, .int .i64 k.lanes, .int .i64 k.minutes] 24)
  have HW0 := Lib.hid hW0
  rw [← hW0] at B K
  clear hW0
  have R := Lib.hid (SlOf.below h B.out)
  obtain ⟨A1, c1, rfl⟩ := SlOf.form h
  obtain ⟨b1, hb1⟩ : ∃ b, chamB k = b := ⟨_, rfl⟩
  obtain ⟨b2, hb2⟩ : ∃ b, lensB l = b := ⟨_, rfl⟩
  have H1 := Lib.hid hb1
  have H2 := Lib.hid hb2
  rw [hb1, hb2]
  clear hb1 hb2 h
  have c0 : W0.cell? ⟨w.heap.size, 0, none⟩ = some (.int .i64 k.length) := K.out.cell 0
  have c1 : W0.cell? ⟨w.heap.size, 1, none⟩ = some (.int .i64 k.lanes) := K.out.cell 1
  have c2 : W0.cell? ⟨w.heap.size, 2, none⟩ = some (.int .i64 k.minutes) := K.out.cell 2
  go_enter Try.func85, Try.ntmps85
  go_wp2_with fail
  rw [← HW0.out]
  clear c0 c1 c2
  refine (implChamberOk k _).mono ?_
  rw [H1.out]
  rintro e w1 ⟨rfl, hb⟩
  have B1 := Lib.hid (B.out.trans (hb.mono B.out.size))
  have R1 := Lib.hid (SlOf.below R.out hb)
  clear hb
  cases b1 with
  | false =>
    go_wp2
    go_ret
    exact ⟨rfl, B1.out⟩
  | true =>
    go_wp2_with fail
    refine (implLengthsOk _ l _ R1.out).mono ?_
    rw [H2.out]
    rintro e w2 ⟨rfl, hb⟩
    have B2 := Lib.hid (B1.out.trans (hb.mono B1.out.size))
    clear hb
    go_wp2
    go_ret
    exact ⟨rfl, B2.out⟩
end Go.Proofs.Ytlddampjbmklkaa
namespace Go.Proofs.Ytlddampjbmklkaa
open Go.ChangeShapes Go.WideShapes Go.ChangeAt Go.Deep Go.RowKit
set_option maxRecDepth 100000
/-- What is known of a locking that came in. -/
def LockIn (w : World) (r : LockR) : Prop := ∃ A c, r.v = .slice A r.ships.length c ∧ r.ships.length ≤ 9223372036854775807 ∧ (r.ships.length ≤ 1000000000 → SlInt w (.slice A r.ships.length c) r.ships)
theorem LockIn.below {w w' : World} {r : LockR} (h : LockIn w r) (hb : Below w.heap.size w w') : LockIn w' r := by
  obtain ⟨A, c, h1, h2, h3⟩ := h
  exact ⟨A, c, h1, h2, fun hl => (h3 hl).below hb⟩
def LocksIn (w : World) (A : Option Addr) (c : Nat) (rows : List LockR) : Prop := rows.length ≤ 9223372036854775807 ∧ (rows.length ≤ 1000000000 → SlOf 3 LockR.cells w (.slice A rows.length c) rows) ∧ ∀ r ∈ rows, LockIn w r
theorem LocksIn.below {w w' : World} {A : Option Addr} {c : Nat} {rows : List LockR} (h : LocksIn w A c rows) (hb : Below w.heap.size w w') : LocksIn w' A c rows := ⟨h.1, fun hl => SlOf.below (h.2.1 hl) hb, fun r hr => (h.2.2 r hr).below hb⟩
/-- How many ships the lockings hold. -/
def bulkLock : List LockR → Int
  | [] => 0
  | r :: rows => (r.ships.length : Int) + bulkLock rows
theorem bulkLock_pos : ∀ rows : List LockR, 0 ≤ bulkLock rows
  | [] => Int.le_refl _
  | r :: rows => by have := bulkLock_pos rows; show 0 ≤ (r.ships.length : Int) + bulkLock rows; omega
theorem bulkLock_snoc : ∀ (rows : List LockR) (x : LockR), bulkLock (rows ++ [x]) = bulkLock rows + x.ships.length
  | [], x => by simp [bulkLock]
  | r :: rows, x => by
    have := bulkLock_snoc rows x
    show (r.ships.length : Int) + bulkLock (rows ++ [x]) = (r.ships.length : Int) + bulkLock rows + _
    omega
theorem bulkLock_next {rows : List LockR} {k : Nat} {x : LockR} (h : rows[k]? = some x) : bulkLock (rows.take (k + 1)) = bulkLock (rows.take k) + x.ships.length := by rw [take_snoc' rows k x h]; exact bulkLock_snoc _ _
theorem bulkLock_app : ∀ (a b : List LockR), bulkLock (a ++ b) = bulkLock a + bulkLock b
  | [], b => by simp [bulkLock]
  | r :: a, b => by
    have := bulkLock_app a b
    show (r.ships.length : Int) + bulkLock (a ++ b) = (r.ships.length : Int) + bulkLock a + _
    omega
theorem bulkLock_le (rows : List LockR) (k : Nat) : bulkLock (rows.take k) ≤ bulkLock rows := by
  have e := bulkLock_app (rows.take k) (rows.drop k)
  rw [List.take_append_drop] at e
  have := bulkLock_pos (rows.drop k)
  omega
theorem bulkLock_mem {rows : List LockR} {x : LockR} (h : x ∈ rows) : (x.ships.length : Int) ≤ bulkLock rows := by
  obtain ⟨i, hi, e⟩ := List.getElem_of_mem h
  have h1 := bulkLock_next (show rows[i]? = some x by rw [List.getElem?_eq_getElem hi, e])
  have h2 := bulkLock_le rows (i + 1)
  have h3 := bulkLock_pos (rows.take i)
  omega
/-- Lockings that are few enough are read. -/
theorem LocksIn.rd {w : World} {A : Option Addr} {c : Nat} {rows : List LockR} (h : LocksIn w A c rows) (hs : (rows.length : Int) + bulkLock rows ≤ 1048576) : RdLocks w (.slice A rows.length c) rows := by
  have hp := bulkLock_pos rows
  refine ⟨h.2.1 (by omega), fun r hr => ?_⟩
  obtain ⟨A', c', h1, h2, h3⟩ := h.2.2 r hr
  have := bulkLock_mem hr
  rw [h1]
  exact h3 (by omega)
set_option maxHeartbeats 1000000 in
theorem szLocking_any (s : Int) (u : Bool) (A : Option Addr) (c : Nat) (l : List Int) (w : World) (hl : l.length ≤ 9223372036854775807) (h : l.length ≤ 1000000000 → SlInt w (.slice A l.length c) l) (lim : Int) (h0 : 0 ≤ lim) (h1 : lim ≤ 1048576) :
    Calls Try.prog 53 #[.agg #[.int .i64 s, .bool u, .slice A l.length c], .int .i64 lim] w fun e w' => e = .returned (.int .i64 (leftOf lim (l.length : Int))) ∧ Below w.heap.size w w' := by
  obtain ⟨W0, hW0⟩ : ∃ W, W = w.alloc (.cells #[.int .i64 s, .bool u, .slice A l.length c] 83) := ⟨_, rfl⟩
  have hb0 := Joins.below_alloc1 w (.cells #[.int .i64 s, .bool u, .slice A l.length c] 83)
  rw [← hW0] at hb0
  have C := szIntS_any A l c W0 hl (fun hl => (h hl).below hb0) lim h0 h1
  rw [show bulkInt l = 0 from rfl, Int.add_zero] at C
  have HC := Lib.hid C
  have B := Lib.hid hb0
  have HW0 := Lib.hid hW0
  obtain ⟨r, hr⟩ : ∃ r, leftOf lim (l.length : Int) = r := ⟨_, rfl⟩
  rw [hr] at HC ⊢
  have hr1 : r < 0 → r = -1 := fun hn => by
    by_cases hlt : lim < (l.length : Int)
    · rw [leftOf_no hlt] at hr; exact hr.symm
    · rw [leftOf_yes hlt] at hr; omega
  generalize l.length = n at *
  clear hW0 hb0 C h hr
  go_enter Try.func53, Try.ntmps53
  go_wp2_with fail
  rw [← HW0.out]
  refine HC.out.mono ?_
  rintro e w1 ⟨rfl, hb1⟩
  have B1 := Lib.hid (B.out.trans (hb1.mono B.out.size))
  clear hb1
  by_cases hn : r < 0
  · obtain rfl := hr1 hn
    go_wp2
    go_ret
    exact ⟨rfl, B1.out⟩
  · go_wp2
    go_ret
    exact ⟨rfl, B1.out⟩
set_option maxHeartbeats 2000000 in
theorem szLockingS_any (A : Option Addr) (rows : List LockR) (c : Nat) (w : World) (h : LocksIn w A c rows) (lim : Int) (h0 : 0 ≤ lim) (h1 : lim ≤ 1048576) :
    Calls Try.prog 19 #[.slice A rows.length c, .int .i64 lim] w fun e w' => e = .returned (.int .i64 (leftOf lim ((rows.length : Int) + bulkLock rows))) ∧ Below w.heap.size w w' := by
  have hp := bulkLock_pos rows
  obtain ⟨hl, hsl, hin⟩ := h
  by_cases hlt : lim < (rows.length : Int)
  · have E := Lib.hid (leftOf_no (lim := lim) (t := (rows.length : Int) + bulkLock rows) (by omega))
    clear hsl hin hp
    generalize rows.length = n at *
    go_enter Try.func19, Try.ntmps19
    go_wp2
    go_ret
    exact ⟨ret_int E.out.symm, Below.refl _ _⟩
  · obtain ⟨_, hs⟩ := hsl (by omega)
    have HIN := Lib.hid hin
    clear hsl hin
    have w0 : IntKind.i64.wrap (lim - (rows.length : Int)) = lim - (rows.length : Int) := by rw [IntKind.wrap_i64]; omega
    rcases hs with ⟨rfl, A', c', he⟩ | ⟨g, o, c', he, hpos, hcap, hc⟩
    · clear he
      go_enter Try.func19, Try.ntmps19
      go_wp2
      refine wp_loop_rounds 1 ?_
      rw [rounds_succ]
      go_wp2
      go_ret
      exact ⟨ret_int (by rw [leftOf_yes (by simp [bulkLock]; omega)]; simp [bulkLock]), Below.refl _ _⟩
    · injection he with hA _ hcp
      subst hA hcp
      have HC := Lib.hid hc
      clear hc
      go_enter Try.func19, Try.ntmps19
      go_wp2
      go_loopw [1, 5] (fun q i wr => ∃ k : Nat, k ≤ rows.length ∧ i = .int .i64 k ∧ q = .int .i64 (lim - (rows.length : Int) - bulkLock (rows.take k)) ∧ 0 ≤ lim - (rows.length : Int) - bulkLock (rows.take k) ∧ Below w.heap.size w wr) (fun _ i _ => rows.length - (intOf i).toNat)
      case atStart => exact ⟨0, Nat.zero_le _, rfl, by simp [bulkLock], by simp [bulkLock]; omega, Below.refl _ _⟩
      case round =>
        obtain ⟨k, hk, rfl, rfl, hle, hb⟩ := hrel
        have hpk := bulkLock_pos (rows.take k)
        by_cases hkl : k < rows.length
        · obtain ⟨x, hx⟩ : ∃ x, rows[k]? = some x := ⟨_, List.getElem?_eq_getElem hkl⟩
          obtain ⟨q0, q1, q2⟩ := LockR.at HC.out k x hx
          have c0 := cell_onV q0 hb
          have c1 := cell_onV q1 hb
          obtain ⟨Ax, cx, hv, hxl, hxs⟩ := HIN.out x (List.mem_of_getElem? hx)
          have c2 := cell_onV q2 hb
          rw [hv] at c2
          have hn := bulkLock_next hx
          have hl2 := bulkLock_le rows (k + 1)
          obtain ⟨z, hz⟩ : ∃ z, lim - (rows.length : Int) - bulkLock (rows.take k) = z := ⟨_, rfl⟩
          rw [hz] at hle ⊢
          have C := szLocking_any x.start x.up Ax cx x.ships wr hxl (fun h => (hxs h).below hb) z hle (by omega)
          have hzs := hb.size
          obtain ⟨y, hy⟩ : ∃ y, x.ships.length = y := ⟨_, rfl⟩
          rw [hy] at C c2 hn
          clear q0 q1 q2 hx hv hxs hxl
          by_cases hneg : z < (y : Int)
          · have EN := Lib.hid (leftOf_no (lim := lim) (t := (rows.length : Int) + bulkLock rows) (by omega))
            rw [leftOf_no hneg] at C
            have HCC := Lib.hid C
            clear hn hl2 hneg C hy
            go_wp2_with fail
            refine HCC.out.mono ?_
            rintro e w1 ⟨rfl, hb1⟩
            go_wp2
            go_ret
            exact ⟨ret_int EN.out.symm, hb.trans (hb1.mono hzs)⟩
          · rw [leftOf_yes hneg] at C
            have hz2 : ¬ z - (y : Int) < 0 := by omega
            have HCC := Lib.hid C
            clear C hy
            go_wp2_with fail
            refine HCC.out.mono ?_
            rintro e w1 ⟨rfl, hb1⟩
            have B1 := Lib.hid (hb.trans (hb1.mono hzs))
            clear hb1
            go_wp2
            go_roundw
            case rel => exact ⟨k + 1, by omega, by go_num, by rw [hn]; congr 1; omega, by rw [hn]; omega, B1.out⟩
            case measure => simp [intOf]; omega
        · obtain rfl : k = rows.length := by omega
          rw [List.take_length] at hle ⊢
          go_wp2
          go_ret
          exact ⟨ret_int (by rw [leftOf_yes (by omega)]; omega), hb⟩
section
variable {H : Type} {enc : TypeId × Value → H} {w : World} {base : Nat} {held : Bool}
theorem dec_locking (n : Nat) (cs : List Value) (y : DataW H × List MemPlace) (h : DataW.trod enc Try.prog w base (fun _ => true) held n 83 cs = some y) : ∃ d : LockR, cs = d.cells ∧ LockIn w d ∧ (Lit.int .i64 d.start).wf = true := by
  obtain ⟨hl, hf⟩ := struct_cells Try.underlying83 (by kernel_rfl) (by kernel_rfl) h
  obtain ⟨v0, n0, y0, e0, h0⟩ := hf 0 _ rfl
  obtain ⟨v1, n1, y1, e1, h1⟩ := hf 1 _ rfl
  obtain ⟨v2, n2, y2, e2, h2⟩ := hf 2 _ rfl
  obtain ⟨a0, ha0, _, wa0⟩ := DataW.trod_int Try.underlying3 h0
  obtain ⟨a1, ha1, _⟩ := DataW.trod_bool Try.underlying4 h1
  obtain ⟨A2, c2, l2, rfl, m2, s2, -⟩ := open_ints h2
  unfold maxLen at m2
  simp only [List.cons.injEq, and_true] at ha0 ha1
  subst ha0 ha1
  refine ⟨⟨a0, a1, .slice A2 l2.length c2, l2⟩, ?_, ⟨A2, c2, rfl, by simp only; omega, s2⟩, wa0⟩
  match cs, hl with
  | [b0, b1, b2], _ =>
    simp at e0 e1 e2
    subst e0 e1 e2
    rfl
theorem open_lockings_arg {r : Reach} {b0 : Nat} {v : Value} {d : DataW H} {ps : List MemPlace} (hval : Value.okWide Try.prog w r b0 45 v) (hd : DataW.Trod enc Try.prog w 0 (fun _ => true) true 45 v d ps) :
    ∃ A c rows, v = .slice A (List.length rows) c ∧ LocksIn w A c rows ∧ ∀ r ∈ rows, (Lit.int .i64 (LockR.start r)).wf = true := by
  obtain ⟨A, len, cap, rfl⟩ := okWide_slice Try.underlying45 hval
  obtain ⟨fuel, hf⟩ := hd
  obtain ⟨A', c', rows, e, h1, h2, h3⟩ := open_elems LockR.cells 3 (fun d => LockIn w d ∧ (Lit.int .i64 d.start).wf = true) Try.underlying45 (by kernel_rfl) lockRLen (by decide) dec_locking hf
  unfold maxLen at h1
  exact ⟨A', c', rows, e, ⟨by omega, h2, fun r hr => (h3 r hr).1⟩, fun r hr => (h3 r hr).2⟩
end
end Go.Proofs.Ytlddampjbmklkaa
