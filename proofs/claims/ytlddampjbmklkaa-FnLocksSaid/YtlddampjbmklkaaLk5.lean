
/- What LocksLaw rests on, part 5: contracts and mathematics. -/
import Derived.Test.YtlddampjbmklkaaLk3
import Derived.Test.YtlddampjbmklkaaLk0
import Derived.Test.YtlddampjbmklkaaLk1
import Derived.StillTailTactics
import Derived.Deep.RegionHeld3
import Derived.Deep.DeepCutAuto
import Derived.Test.YtlddampjbmklkaaLk4
import Derived.Test.YtlddampjbmklkaaLk2
namespace Go.Proofs.Ytlddampjbmklkaa
open Go.RowKit
set_option maxRecDepth 100000
set_option maxHeartbeats 4000000 in
theorem implChamberOk (k : ChamberD) (w : World) : Calls Try.prog 42 #[k.val] w fun e w' => e = .returned (.bool (chamB k)) ∧ Below w.heap.size w w' := by
  have E := Lib.hid (show chamB k = decide (10 ≤ k.length ∧ k.length ≤ 1000 ∧ 1 ≤ k.lanes ∧ k.lanes ≤ 3 ∧ 1 ≤ k.minutes ∧ k.minutes ≤ 120) by
    unfold chamB inB
    rw [← Bool.decide_and, ← Bool.decide_and, decide_eq_decide]
    omega)
  have B := Lib.hid (Joins.below_alloc1 w (.cells #[.int .i64 k.length, .int .i64 k.lanes, .int .i64 k.minutes] 24))
  go_enter Try.func42, Try.ntmps42
  go_wp2
  all_goals (go_ret; exact ⟨ret_bool (by first | (rw [E.out, decide_eq_decide]; omega) | (rw [E.out]; exact (decide_eq_false (by omega)).symm) | (rw [E.out]; exact (decide_eq_true (by omega)).symm)), B.out⟩)
/-- The length is not right. -/
def offB (n : Int) : Bool := !inB n 1 400
set_option maxHeartbeats 2000000 in
theorem lengthsOk1 (n : Int) (w : World) : Calls Try.prog 97 #[.int .i64 n] w fun e w' => e = .returned (.bool (offB n)) ∧ w' = w := by
  have E := Lib.hid (show offB n = decide (n < 1 ∨ 400 < n) by
    unfold offB inB
    rw [← decide_not, decide_eq_decide]
    omega)
  go_enter Try.func97, Try.ntmps97
  go_wp2
  all_goals (go_ret; exact ⟨ret_bool (by first | (rw [E.out, decide_eq_decide]; omega) | (rw [E.out]; exact (decide_eq_false (by omega)).symm) | (rw [E.out]; exact (decide_eq_true (by omega)).symm) | (rw [E.out]; simp)), rfl⟩)
set_option maxHeartbeats 4000000 in
theorem indexOff (v : Value) (l : List Int) (w : World) (h : SlInt w v l) :
    Calls Try.prog 98 #[v, .func (.func 97) #[] #[]] w fun e w' => e = .returned (.int .i64 (firstI offB l)) ∧ Below w.heap.size w w' := by
  have hl := h.1
  have HS := Lib.hid h
  obtain ⟨A1, c1, rfl⟩ := SlOf.form h
  clear h
  go_enter Try.func98, Try.ntmps98
  go_wp2
  go_loopw [8] (fun i wr => ∃ k : Nat, k ≤ l.length ∧ i = .int .i64 (k : Int) ∧ Hid (NoOne offB l k) ∧ Hid (Below w.heap.size w wr)) (fun i _ => l.length - (intOf i).toNat)
  case atStart => exact ⟨0, Nat.zero_le _, rfl, Lib.hid (NoOne.zero _ _), Lib.hid (Below.refl _ _)⟩
  case round =>
    obtain ⟨k, hk, rfl, hN, hb⟩ := hrel
    by_cases hlt : k < l.length
    rotate_left
    · obtain rfl : k = l.length := by omega
      have E := Lib.hid (firstI_none hN.out)
      go_wp2
      go_ret
      exact ⟨ret_int E.out.symm, hb.out⟩
    obtain ⟨n, hn⟩ : ∃ n, l[k]? = some n := ⟨_, List.getElem?_eq_getElem hlt⟩
    rcases HS.out.2 with ⟨he, _⟩ | ⟨g, o, c, e, hpos, hcap, hc⟩
    · rw [he] at hlt; simp at hlt
    injection e with hA' _ hcp
    subst hA' hcp
    have y0 := cell_onV (SlInt.cells hc k n hn) hb.out
    have HN := Lib.hid hn
    obtain ⟨t, ht⟩ : ∃ t, offB n = t := ⟨_, rfl⟩
    have HT := Lib.hid ht
    clear hn ht hc
    go_wp2_with fail
    refine (lengthsOk1 _ _).mono ?_
    rw [HT.out]
    rintro e wz ⟨rfl, rfl⟩
    clear y0
    cases t with
    | true =>
      have E := Lib.hid (firstI_at hN.out HN.out HT.out)
      go_wp2
      go_ret
      exact ⟨ret_int E.out.symm, hb.out⟩
    | false =>
      have N2 := Lib.hid (hN.out.next HN.out HT.out)
      go_wp2
      go_roundw
      case rel => exact ⟨k + 1, by omega, by go_num, N2, hb⟩
      case measure => simp [intOf]; omega
set_option maxHeartbeats 2000000 in
theorem containsOff (v : Value) (l : List Int) (w : World) (h : SlInt w v l) :
    Calls Try.prog 96 #[v, .func (.func 97) #[] #[]] w fun e w' => e = .returned (.bool (decide (0 ≤ firstI offB l))) ∧ Below w.heap.size w w' := by
  have C := Lib.hid (indexOff v l w h)
  obtain ⟨i, hi⟩ : ∃ i, firstI offB l = i := ⟨_, rfl⟩
  have HI := Lib.hid hi
  rw [hi]
  obtain ⟨A1, c1, rfl⟩ := SlOf.form h
  clear h hi
  go_enter Try.func96, Try.ntmps96
  go_wp2_with fail
  refine C.out.mono ?_
  rw [HI.out]
  rintro e w1 ⟨rfl, hb1⟩
  have B1 := Lib.hid hb1
  clear hb1
  go_wp2
  go_ret
  exact ⟨rfl, B1.out⟩
theorem lensB_first (l : List Int) (h : l.length ≤ 8) : lensB l = !decide (0 ≤ firstI offB l) := by
  unfold lensB firstI
  rw [decide_eq_true h, Bool.true_and]
  cases hf : l.findIdx? offB with
  | none =>
    rw [List.findIdx?_eq_none_iff] at hf
    have : l.all (fun n => inB n 1 400) = true := by
      rw [List.all_eq_true]
      intro x hx
      have := hf x hx
      unfold offB at this
      simpa using this
    rw [this]
    rfl
  | some i =>
    have h1 := List.findIdx?_eq_some_iff_getElem.1 hf
    obtain ⟨hi, h2, -⟩ := h1
    have : l.all (fun n => inB n 1 400) = false := by
      rw [List.all_eq_false]
      refine ⟨l[i], List.getElem_mem hi, ?_⟩
      unfold offB at h2
      simpa using h2
    rw [this]
    have h0 : (0 : Int) ≤ (i : Int) := by omega
    rw [decide_eq_true h0]
    rfl
set_option maxHeartbeats 4000000 in
theorem implLengthsOk (v : Value) (l : List Int) (w : World) (h : SlInt w v l) : Calls Try.prog 91 #[v] w fun e w' => e = .returned (.bool (lensB l)) ∧ Below w.heap.size w w' := by
  have hl := h.1
  have HS := Lib.hid h
  obtain ⟨A1, c1, rfl⟩ := SlOf.form h
  clear h
  by_cases h8 : l.length ≤ 8
  rotate_left
  · have E := Lib.hid (lensB_long h8)
    obtain ⟨m, hm⟩ : ∃ m, l.length = m := ⟨_, rfl⟩
    rw [hm] at h8 hl ⊢
    clear hm
    have h8' : decide ((m : Int) ≤ 8) = false := decide_eq_false (by omega)
    go_enter Try.func91, Try.ntmps91
    go_wp2
    go_ret
    exact ⟨ret_bool E.out.symm, Below.refl _ _⟩
  have C := Lib.hid (containsOff _ l w HS.out)
  have E0 := lensB_first l h8
  obtain ⟨b, hb⟩ : ∃ b, decide (0 ≤ firstI offB l) = b := ⟨_, rfl⟩
  have HB := Lib.hid hb
  rw [hb] at E0
  have E := Lib.hid E0
  obtain ⟨m, hm⟩ : ∃ m, l.length = m := ⟨_, rfl⟩
  rw [hm] at h8 hl C ⊢
  have h8' : decide ((m : Int) ≤ 8) = true := decide_eq_true (by omega)
  clear hm hb E0
  go_enter Try.func91, Try.ntmps91
  go_wp2_with fail
  refine C.out.mono ?_
  rw [HB.out]
  rintro e w1 ⟨rfl, hb1⟩
  have B1 := Lib.hid hb1
  clear hb1
  cases b with
  | true =>
    go_wp2
    go_ret
    exact ⟨ret_bool (by rw [E.out]; rfl), B1.out⟩
  | false =>
    go_wp2
    go_ret
    exact ⟨ret_bool (by rw [E.out]; rfl), B1.out⟩
set_option maxHeartbeats 4000000 in
theorem implCanPack (k : ChamberD) (v : Value) (l : List Int) (w : World) (h : SlInt w v l) : Calls Try.prog 85 #[k.val, v] w fun e w' => e = .returned (.bool (chamB k && lensB l)) ∧ Below w.heap.size w w' := by
  obtain ⟨W0, hW0⟩ : ∃ W0, W0 = (w.alloc (.cells #[.int .i64 k.length, .int .i64 k.lanes, .int .i64 k.minutes] 24)) := ⟨_, rfl⟩
  have B := Lib.hid (Joins.below_alloc1 w (.cells #[.int .i64 k.length, .int .i64 k.lanes, .int .i64 k.minutes] 24))
  have K := Lib.hid (Blk.new w #[.int .i64 k.length, .int .i64 k.lanes, .int .i64 k.minutes] 24)
  have HW0 := Lib.hid hW0
  rw [← hW0] at B K
  clear hW0
  have R := Lib.hid (SlOf.below h B.out)
  obtain ⟨A1, c1, rfl⟩ := SlOf.form h
  obtain ⟨b1, hb1⟩ : ∃ b, chamB k = b := ⟨_, rfl⟩
  obtain ⟨b2, hb2⟩ : ∃ b, lensB l = b := ⟨_, rfl⟩
  have H1 := Lib.hid hb1
  have H2 := Lib.hid hb2
  rw [hb1, hb2]
  clear hb1 hb2 h
  have c0 : W0.cell? ⟨w.heap.size, 0, none⟩ = some (.int .i64 k.length) := K.out.cell 0
  have c1 : W0.cell? ⟨w.heap.size, 1, none⟩ = some (.int .i64 k.lanes) := K.out.cell 1
  have c2 : W0.cell? ⟨w.heap.size, 2, none⟩ = some (.int .i64 k.minutes) := K.out.cell 2
  go_enter Try.func85, Try.ntmps85
  go_wp2_with fail
  rw [← HW0.out]
  clear c0 c1 c2
  refine (implChamberOk k _).mono ?_
  rw [H1.out]
  rintro e w1 ⟨rfl, hb⟩
  have B1 := Lib.hid (B.out.trans (hb.mono B.out.size))
  have R1 := Lib.hid (SlOf.below R.out hb)
  clear hb
  cases b1 with
  | false =>
    go_wp2
    go_ret
    exact ⟨rfl, B1.out⟩
  | true =>
    go_wp2_with fail
    refine (implLengthsOk _ l _ R1.out).mono ?_
    rw [H2.out]
    rintro e w2 ⟨rfl, hb⟩
    have B2 := Lib.hid (B1.out.trans (hb.mono B1.out.size))
    clear hb
    go_wp2
    go_ret
    exact ⟨rfl, B2.out⟩
end Go.Proofs.Ytlddampjbmklkaa
namespace Go.Proofs.Ytlddampjbmklkaa
set_option maxRecDepth 100000
theorem laneP_over {L n : Int} {us : List Int} {rest : List Int → Option (List Int)} {j m : Nat} (h : ¬ us.getD j 0 + n ≤ L) : laneR L n us rest j (m + 1) = laneR L n us rest (j + 1) m := by
  conv => lhs; unfold laneR
  rw [if_neg h]
theorem laneP_no {L n : Int} {us : List Int} {rest : List Int → Option (List Int)} {j m : Nat} (h : us.getD j 0 + n ≤ L) (hr : rest (us.set j (us.getD j 0 + n)) = none) : laneR L n us rest j (m + 1) = laneR L n us rest (j + 1) m := by
  conv => lhs; unfold laneR
  rw [if_pos h, hr]
theorem laneP_yes {L n : Int} {us : List Int} {rest : List Int → Option (List Int)} {j m : Nat} {out : List Int} (h : us.getD j 0 + n ≤ L) (hr : rest (us.set j (us.getD j 0 + n)) = some out) : laneR L n us rest j (m + 1) = some ((j : Int) :: out) := by
  unfold laneR
  rw [if_pos h, hr]
theorem laneP_none {L n : Int} {us : List Int} {rest : List Int → Option (List Int)} : ∀ {m j : Nat}, (∀ i, j ≤ i → i < j + m → us.getD i 0 + n ≤ L → rest (us.set i (us.getD i 0 + n)) = none) → laneR L n us rest j m = none
  | 0, _, _ => rfl
  | m + 1, j, h => by
    by_cases hf : us.getD j 0 + n ≤ L
    · rw [laneP_no hf (h j (Nat.le_refl _) (by omega) hf)]
      exact laneP_none fun i h1 h2 => h i (by omega) (by omega)
    · rw [laneP_over hf]
      exact laneP_none fun i h1 h2 => h i (by omega) (by omega)
/-- Two labels exchanged. -/
def swapI (i j : Nat) (x : Int) : Int := if x = (i : Int) then (j : Int) else if x = (j : Int) then (i : Int) else x
def swapN (i j k : Nat) : Nat := if k = i then j else if k = j then i else k
theorem swap_hit (i j k : Nat) (x : Int) : swapI i j x = (k : Int) ↔ x = (swapN i j k : Int) := by
  unfold swapI swapN
  have k1 : ((if k = i then j else if k = j then i else k : Nat) : Int) = if k = i then (j : Int) else if k = j then (i : Int) else (k : Int) := by
    split
    · rfl
    · split <;> rfl
  rw [k1]
  split <;> split <;> (try split) <;> (try split) <;> omega
theorem sumIn_swap (i j : Nat) : ∀ (l s : List Int) (k : Nat), sumIn l (s.map (swapI i j)) k = sumIn l s (swapN i j k)
  | [], s, k => by simp [sumIn]
  | a :: l, [], k => by simp [sumIn]
  | a :: l, b :: s, k => by
    have ih := sumIn_swap i j l s k
    show (if swapI i j b = (k : Int) then a else 0) + sumIn l (s.map (swapI i j)) k = (if b = (swapN i j k : Int) then a else 0) + sumIn l s (swapN i j k)
    rw [ih]
    by_cases e : b = (swapN i j k : Int)
    · rw [if_pos e, if_pos ((swap_hit i j k b).2 e)]
    · rw [if_neg e, if_neg (fun h => e ((swap_hit i j k b).1 h))]
/-- Where a ship cannot begin one empty lane, it cannot begin another one. -/
theorem empty_same {L x : Int} {n : Nat} {l us : List Int} {i j : Nat} (hl : us.length = n) (hi : i < n) (hj : j < n) (hij : i ≠ j) (ui : us.getD i 0 = 0) (uj : us.getD j 0 = 0) (hu : ∀ k, k < n → us.getD k 0 ≤ L) (hx : x ≤ L) (hn : ∀ y ∈ l, 0 ≤ y)
    (h : packR L n l (us.set j x) = none) : packR L n l (us.set i x) = none := by
  cases hp : packR L n l (us.set i x) with
  | none => rfl
  | some s =>
    exfalso
    obtain ⟨h1, h2, h3⟩ := packR_fits (by simpa using hl) (fun k hk => by
      by_cases e : i = k
      · subst e; rw [getD_set_same _ _ _ (by omega)]; exact hx
      · rw [getD_set_other _ _ e]; exact hu k hk) hp
    refine packR_none (s := s.map (swapI i j)) (by simpa using hl) hn h ⟨by simpa using h1, fun y hy => ?_, fun k hk => ?_⟩
    · obtain ⟨z, hz, rfl⟩ := List.mem_map.1 hy
      have := h2 z hz
      unfold swapI
      split
      · omega
      · split <;> omega
    · rw [sumIn_swap]
      have hsk : swapN i j k < n := by unfold swapN; split; omega; split <;> omega
      have h4 := h3 (swapN i j k) hsk
      have e : (us.set j x).getD k 0 = (us.set i x).getD (swapN i j k) 0 := by
        unfold swapN
        by_cases e1 : k = i
        · subst e1
          rw [if_pos rfl, getD_set_other _ _ (fun e => hij e.symm), getD_set_other _ _ hij, ui, uj]
        · rw [if_neg e1]
          by_cases e2 : k = j
          · subst e2
            rw [if_pos rfl, getD_set_same _ _ _ (by omega), getD_set_same _ _ _ (by omega)]
          · rw [if_neg e2, getD_set_other _ _ (fun e => e2 e.symm), getD_set_other _ _ (fun e => e1 e.symm)]
      rw [e]
      exact h4
end Go.Proofs.Ytlddampjbmklkaa
namespace Go.Proofs.Ytlddampjbmklkaa
open Go.RowKit
set_option maxRecDepth 100000
section
variable {ops : Array Oper} {o : Oper} {a : Act} {w : World} {K : Act → World → Prop} {Q : Exit → Act → World → Prop} {E : Prop}
theorem step_build0 (hgd : o.guard = none) (ho : o.op = Op.buildSlice 33 0 #[]) (h : K (a.put o.dst (.slice (some ⟨w.heap.size, 0, none⟩) 0 0)) (w.alloc (.cells #[] 3))) :
    if Region.wanted o (yielded ops a.tmps) = true then Oper.wp Try.prog o a w K Q else E := by
  have hw : Region.wanted o (yielded ops a.tmps) = true := by simp [Region.wanted, hgd]
  rw [if_pos hw]
  unfold Oper.wp execOp
  rw [ho]
  go_simp
  exact h
theorem step_build1 (hgd : o.guard = none) (x : Operand) (y : Int) (ho : o.op = Op.buildSlice 33 1 #[(0, x)]) (hx : a.eval x = .int .i64 y) (h : K (a.put o.dst (.slice (some ⟨w.heap.size, 0, none⟩) 1 1)) (w.alloc (.cells #[.int .i64 y] 3))) :
    if Region.wanted o (yielded ops a.tmps) = true then Oper.wp Try.prog o a w K Q else E := by
  have hw : Region.wanted o (yielded ops a.tmps) = true := by simp [Region.wanted, hgd]
  rw [if_pos hw]
  unfold Oper.wp execOp
  rw [ho]
  simp only [List.map_toArray, List.map_cons, List.map_nil, hx]
  go_simp
  exact h
end
theorem KeepX.cell {ex : Nat → Prop} {w w' : World} (h : KeepX ex w w') {p : Addr} {v : Value} (hc : w.cell? p = some v) (hn : ¬ ex p.block) : w'.cell? p = some v :=
  (World.cell?_of_block (h.block p.block (World.block_lt_of_cell? w _ hc) hn)).trans hc
/-- Lists of one's own, no two in one block, over what has come since wd. -/
structure Liv (wd x : World) (L : List (Nat × Value × List Int)) : Prop where
  own : ∀ p ∈ L, OwnInt x wd.heap.size p.2.1 p.2.2
  ap : ∀ p ∈ L, ∀ q ∈ L, p ≠ q → ApartV p.2.1 q.2.1
  low : Below wd.heap.size wd x
theorem Liv.nil (w : World) : Liv w w [] := ⟨fun p hp => absurd hp (by simp), fun p hp => absurd hp (by simp), Below.refl _ _⟩
theorem ApartV.symm' {v u : Value} (h : ApartV v u) : ApartV u v := fun g hg hg' => h g hg' hg
theorem Liv.build {wd x : World} {L : List (Nat × Value × List Int)} (h : Liv wd x L) (τ : Nat) (l : List Int) (hl : l.length ≤ 1000000) :
    Liv wd (x.alloc (.cells (l.map (Value.int .i64)).toArray 3)) ((τ, .slice (some ⟨x.heap.size, 0, none⟩) l.length l.length, l) :: L) := by
  have hb := Joins.below_alloc1 x (.cells (l.map (Value.int .i64)).toArray 3)
  have hfl : l.flatMap intCells = l.map (Value.int .i64) := by
    induction l with
    | nil => rfl
    | cons y l ih => rw [List.flatMap_cons, ih (by simp at hl; omega) (Joins.below_alloc1 x _)]; rfl
  refine ⟨fun p hp => ?_, fun p hp q hq hne => ?_, h.low.trans (hb.mono h.low.size)⟩
  · rcases List.mem_cons.1 hp with rfl | hp
    · have h1 := World.ownsRow_lit (base := wd.heap.size) (e := 3) (size := 1) x (l.map (Value.int .i64)).toArray l.length h.low.size (by unfold maxLen; omega) (by simp)
      unfold OwnInt OwnOf
      rw [hfl]
      exact h1
    · exact own_below (h.own p hp) hb
  · have hfar : ∀ q ∈ L, ApartV (.slice (some ⟨x.heap.size, 0, none⟩) l.length l.length) q.2.1 := fun q hq g hg hg' => by
      simp [Value.ownBlock] at hg
      have := own_range (h.own q hq) g hg'
      omega
    rcases List.mem_cons.1 hp with rfl | hp
    · rcases List.mem_cons.1 hq with rfl | hq
      · exact absurd rfl hne
      · exact hfar q hq
    · rcases List.mem_cons.1 hq with rfl | hq
      · exact (hfar p hp).symm'
      · exact h.ap p hp q hq hne
/-- One of them has been appended to. -/
theorem Liv.app {wd x x' : World} {L L' : List (Nat × Value × List Int)} (h : Liv wd x L) {τ : Nat} {v : Value} {l m : List Int} (hv : (τ, v, l) ∈ L) (τ' : Nat) {g n cap : Nat}
    (hown : OwnInt x' wd.heap.size (.slice (some ⟨g, 0, none⟩) n cap) m) (hgr : x.grownBy x' v.ownBlock) (hor : v.ownBlock = some g ∨ g = x.heap.size) (hL : ∀ q ∈ L', q ∈ L ∧ q.1 ≠ τ) :
    Liv wd x' ((τ', .slice (some ⟨g, 0, none⟩) n cap, m) :: L') := by
  have hfar : ∀ q ∈ L', ApartV (.slice (some ⟨g, 0, none⟩) n cap) q.2.1 := fun q hq j hj hj' => by
    simp [Value.ownBlock] at hj
    subst hj
    rcases hor with e | e
    · exact h.ap _ hv q (hL q hq).1 (fun e' => (hL q hq).2 (by rw [← e'])) g e hj'
    · have := own_range (h.own q (hL q hq).1) g hj'
      omega
  refine ⟨fun p hp => ?_, fun p hp q hq hne => ?_, ?_⟩
  · rcases List.mem_cons.1 hp with rfl | hp
    · exact hown
    · exact own_keep (h.own p (hL p hp).1) (KeepX.grown (ex := fun i => v.ownBlock = some i) hgr (fun _ e => e)) (fun j hj e => h.ap _ hv p (hL p hp).1 (fun e' => (hL p hp).2 (by rw [← e'])) j e hj)
  · rcases List.mem_cons.1 hp with rfl | hp
    · rcases List.mem_cons.1 hq with rfl | hq
      · exact absurd rfl hne
      · exact hfar q hq
    · rcases List.mem_cons.1 hq with rfl | hq
      · exact (hfar p hp).symm'
      · exact h.ap p (hL p hp).1 q (hL q hq).1 hne
  · exact h.low.grown hgr h.low.size (fun j e => by have := own_range (h.own _ hv) j e; omega)
section
variable {ops : Array Oper} {o : Oper} {a : Act} {K : Act → World → Prop} {Q : Exit → Act → World → Prop} {E : Prop}
/-- A step that appends a list (which reads so) to one of them. -/
theorem step_liv {wd x : World} {L L' : List (Nat × Value × List Int)} (h : Liv wd x L) {τ : Nat} (τ' : Nat) {v u : Value} {l m : List Int} (hgd : o.guard = none) (s t : Operand)
    (ho : o.op = .call { callee := .builtin .append, args := #[s, t], argTypes := #[33, 33] }) (hs : a.eval s = v) (ht : a.eval t = u) (hv : (τ, v, l) ∈ L) (hu : SlInt x u m) (hb : l.length + m.length ≤ 10000000)
    (hL : ∀ q ∈ L', q ∈ L ∧ q.1 ≠ τ) (hK : ∀ v' x', Liv wd x' ((τ', v', l ++ m) :: L') → K (a.put o.dst v') x') :
    if Region.wanted o (yielded ops a.tmps) = true then Oper.wp Try.prog o a x K Q else E := by
  obtain ⟨i0, hi, hz0, hz1, hz2⟩ := info1_int
  have ho1 := h.own _ hv
  obtain ⟨A, c, e⟩ := own_form ho1
  simp only at e
  subst e
  rcases hu.2 with ⟨rfl, B, c', rfl⟩ | ⟨g, of, c', rfl, hp, hcap, hc⟩
  · have hlc : l.length ≤ c := by
      rcases ho1.2 with ⟨e, h0⟩ | ⟨g, cap, cur, e, _, _, hnc, _⟩
      · injection e with _ e2 _; omega
      · injection e with _ _ e3; omega
    refine step_append_none x hgd s t _ ho 3 i0 Try.underlying33 hi A l.length c hs hlc B c' ht ?_
    refine hK _ x ?_
    rw [List.append_nil]
    refine ⟨fun p hp => ?_, fun p hp q hq hne => ?_, h.low⟩
    · rcases List.mem_cons.1 hp with rfl | hp
      · exact ho1
      · exact h.own p (hL p hp).1
    · rcases List.mem_cons.1 hp with rfl | hp
      · rcases List.mem_cons.1 hq with rfl | hq
        · exact absurd rfl hne
        · exact h.ap _ hv q (hL q hq).1 (fun e' => (hL q hq).2 (by rw [← e']))
      · rcases List.mem_cons.1 hq with rfl | hq
        · exact h.ap p (hL p hp).1 (τ, .slice A l.length c, l) hv (fun e' => (hL p hp).2 (by rw [e']))
        · exact h.ap p (hL p hp).1 q (hL q hq).1 hne
  · have hsrc : ∀ j w', (m.flatMap intCells)[j]? = some w' → x.cell? ((⟨g, of, none⟩ : Addr).add j) = some w' := fun j w' hj => by
      have hjl : j < m.length := by have := (List.getElem?_eq_some_iff.1 hj).1; rw [flat_len intLen] at this; omega
      obtain ⟨y, hy⟩ : ∃ y, m[j]? = some y := ⟨_, List.getElem?_eq_getElem hjl⟩
      have e1 := flat_at intLen m j y hy 0 _ rfl
      rw [Nat.mul_one, Nat.add_zero, hj] at e1
      injection e1 with e1
      subst e1
      have e2 := hc j y hy 0 _ rfl
      rw [Addr.add_lit]
      simpa using e2
    refine step_append_keeps x hgd s t _ ho wd.heap.size 3 i0 _ 1 8 Try.underlying33 hi hz0 hz1 hz2 rfl (by omega) (.slice A l.length c) l.length (l.flatMap intCells) hs ho1 ⟨g, of, none⟩ m.length c' (m.flatMap intCells) ht (flat_len intLen m) hsrc (fun y hy => ?_) hp (by unfold maxLen; omega) (by omega) h.low.size ?_
    · obtain ⟨z, _, hz⟩ := List.mem_flatMap.1 hy
      exact int_one z y hz
    · intro g4 cap4 x4 hown hgr hor _ _
      refine hK _ x4 (h.app hv τ' (m := l ++ m) ?_ hgr hor hL)
      unfold OwnInt OwnOf
      rw [List.length_append, List.flatMap_append]
      exact hown
end
theorem mem1 {α : Type} {q a0 : α} (h : q ∈ [a0]) : q = a0 := by simpa using h
theorem wp_of_step {P : Program} {ops : Array Oper} {o : Oper} {a : Act} {w : World} {K : Act → World → Prop} {Q : Exit → Act → World → Prop} (hgd : o.guard = none)
    (h : if Region.wanted o (yielded ops a.tmps) = true then Oper.wp P o a w K Q else False) : Oper.wp P o a w K Q := by
  have hw : Region.wanted o (yielded ops a.tmps) = true := by simp [Region.wanted, hgd]
  rw [if_pos hw] at h
  exact h
end Go.Proofs.Ytlddampjbmklkaa
