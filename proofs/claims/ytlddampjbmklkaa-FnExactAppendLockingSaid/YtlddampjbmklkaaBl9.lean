
/- What ExactLockPlanOk and ExactAppendLocking rests on, part 9: contracts and mathematics. -/
import Derived.Test.YtlddampjbmklkaaBl7
import Derived.Test.YtlddampjbmklkaaBl2
import Derived.Test.YtlddampjbmklkaaBl5
import Derived.Deep.RegionHeld3
namespace Go.Proofs.Ytlddampjbmklkaa
open Go.RowKit
set_option maxRecDepth 100000
section
variable {ops : Array Oper} {o : Oper} {a : Act} {w : World} {K : Act → World → Prop} {Q : Exit → Act → World → Prop} {E : Prop}
theorem step_build0 (hgd : o.guard = none) (ho : o.op = Op.buildSlice 33 0 #[]) (h : K (a.put o.dst (.slice (some ⟨w.heap.size, 0, none⟩) 0 0)) (w.alloc (.cells #[] 3))) :
    if Region.wanted o (yielded ops a.tmps) = true then Oper.wp Try.prog o a w K Q else E := by
  have hw : Region.wanted o (yielded ops a.tmps) = true := by simp [Region.wanted, hgd]
  rw [if_pos hw]
  unfold Oper.wp execOp
  rw [ho]
  go_simp
  exact h
theorem step_build1 (hgd : o.guard = none) (x : Operand) (y : Int) (ho : o.op = Op.buildSlice 33 1 #[(0, x)]) (hx : a.eval x = .int .i64 y) (h : K (a.put o.dst (.slice (some ⟨w.heap.size, 0, none⟩) 1 1)) (w.alloc (.cells #[.int .i64 y] 3))) :
    if Region.wanted o (yielded ops a.tmps) = true then Oper.wp Try.prog o a w K Q else E := by
  have hw : Region.wanted o (yielded ops a.tmps) = true := by simp [Region.wanted, hgd]
  rw [if_pos hw]
  unfold Oper.wp execOp
  rw [ho]
  simp only [List.map_toArray, List.map_cons, List.map_nil, hx]
  go_simp
  exact h
end
theorem KeepX.cell {ex : Nat → Prop} {w w' : World} (h : KeepX ex w w') {p : Addr} {v : Value} (hc : w.cell? p = some v) (hn : ¬ ex p.block) : w'.cell? p = some v :=
  (World.cell?_of_block (h.block p.block (World.block_lt_of_cell? w _ hc) hn)).trans hc
/-- Lists of one's own, no two in one block, over what has come since wd. -/
structure Liv (wd x : World) (L : List (Nat × Value × List Int)) : Prop where
  own : ∀ p ∈ L, OwnInt x wd.heap.size p.2.1 p.2.2
  ap : ∀ p ∈ L, ∀ q ∈ L, p ≠ q → ApartV p.2.1 q.2.1
  low : Below wd.heap.size wd x
theorem Liv.nil (w : World) : Liv w w [] := ⟨fun p hp => absurd hp (by simp), fun p hp => absurd hp (by simp), Below.refl _ _⟩
theorem ApartV.symm' {v u : Value} (h : ApartV v u) : ApartV u v := fun g hg hg' => h g hg' hg
theorem Liv.build {wd x : World} {L : List (Nat × Value × List Int)} (h : Liv wd x L) (τ : Nat) (l : List Int) (hl : l.length ≤ 1000000) :
    Liv wd (x.alloc (.cells (l.map (Value.int .i64)).toArray 3)) ((τ, .slice (some ⟨x.heap.size, 0, none⟩) l.length l.length, l) :: L) := by
  have hb := Joins.below_alloc1 x (.cells (l.map (Value.int .i64)).toArray 3)
  have hfl : l.flatMap intCells = l.map (Value.int .i64) := by
    induction l with
    | nil => rfl
    | cons y l ih => rw [List.flatMap_cons, ih (by simp at hl; omega) (Joins.below_alloc1 x _)]; rfl
  refine ⟨fun p hp => ?_, fun p hp q hq hne => ?_, h.low.trans (hb.mono h.low.size)⟩
  · rcases List.mem_cons.1 hp with rfl | hp
    · have h1 := World.ownsRow_lit (base := wd.heap.size) (e := 3) (size := 1) x (l.map (Value.int .i64)).toArray l.length h.low.size (by unfold maxLen; omega) (by simp)
      unfold OwnInt OwnOf
      rw [hfl]
      exact h1
    · exact own_below (h.own p hp) hb
  · have hfar : ∀ q ∈ L, ApartV (.slice (some ⟨x.heap.size, 0, none⟩) l.length l.length) q.2.1 := fun q hq g hg hg' => by
      simp [Value.ownBlock] at hg
      have := own_range (h.own q hq) g hg'
      omega
    rcases List.mem_cons.1 hp with rfl | hp
    · rcases List.mem_cons.1 hq with rfl | hq
      · exact absurd rfl hne
      · exact hfar q hq
    · rcases List.mem_cons.1 hq with rfl | hq
      · exact (hfar p hp).symm'
      · exact h.ap p hp q hq hne
/-- One of them has been appended to. -/
theorem Liv.app {wd x x' : World} {L L' : List (Nat × Value × List Int)} (h : Liv wd x L) {τ : Nat} {v : Value} {l m : List Int} (hv : (τ, v, l) ∈ L) (τ' : Nat) {g n cap : Nat}
    (hown : OwnInt x' wd.heap.size (.slice (some ⟨g, 0, none⟩) n cap) m) (hgr : x.grownBy x' v.ownBlock) (hor : v.ownBlock = some g ∨ g = x.heap.size) (hL : ∀ q ∈ L', q ∈ L ∧ q.1 ≠ τ) :
    Liv wd x' ((τ', .slice (some ⟨g, 0, none⟩) n cap, m) :: L') := by
  have hfar : ∀ q ∈ L', ApartV (.slice (some ⟨g, 0, none⟩) n cap) q.2.1 := fun q hq j hj hj' => by
    simp [Value.ownBlock] at hj
    subst hj
    rcases hor with e | e
    · exact h.ap _ hv q (hL q hq).1 (fun e' => (hL q hq).2 (by rw [← e'])) g e hj'
    · have := own_range (h.own q (hL q hq).1) g hj'
      omega
  refine ⟨fun p hp => ?_, fun p hp q hq hne => ?_, ?_⟩
  · rcases List.mem_cons.1 hp with rfl | hp
    · exact hown
    · exact own_keep (h.own p (hL p hp).1) (KeepX.grown (ex := fun i => v.ownBlock = some i) hgr (fun _ e => e)) (fun j hj e => h.ap _ hv p (hL p hp).1 (fun e' => (hL p hp).2 (by rw [← e'])) j e hj)
  · rcases List.mem_cons.1 hp with rfl | hp
    · rcases List.mem_cons.1 hq with rfl | hq
      · exact absurd rfl hne
      · exact hfar q hq
    · rcases List.mem_cons.1 hq with rfl | hq
      · exact (hfar p hp).symm'
      · exact h.ap p (hL p hp).1 q (hL q hq).1 hne
  · exact h.low.grown hgr h.low.size (fun j e => by have := own_range (h.own _ hv) j e; omega)
section
variable {ops : Array Oper} {o : Oper} {a : Act} {K : Act → World → Prop} {Q : Exit → Act → World → Prop} {E : Prop}
/-- A step that appends a list (which reads so) to one of them. -/
theorem step_liv {wd x : World} {L L' : List (Nat × Value × List Int)} (h : Liv wd x L) {τ : Nat} (τ' : Nat) {v u : Value} {l m : List Int} (hgd : o.guard = none) (s t : Operand)
    (ho : o.op = .call { callee := .builtin .append, args := #[s, t], argTypes := #[33, 33] }) (hs : a.eval s = v) (ht : a.eval t = u) (hv : (τ, v, l) ∈ L) (hu : SlInt x u m) (hb : l.length + m.length ≤ 10000000)
    (hL : ∀ q ∈ L', q ∈ L ∧ q.1 ≠ τ) (hK : ∀ v' x', Liv wd x' ((τ', v', l ++ m) :: L') → K (a.put o.dst v') x') :
    if Region.wanted o (yielded ops a.tmps) = true then Oper.wp Try.prog o a x K Q else E := by
  obtain ⟨i0, hi, hz0, hz1, hz2⟩ := info1_int
  have ho1 := h.own _ hv
  obtain ⟨A, c, e⟩ := own_form ho1
  simp only at e
  subst e
  rcases hu.2 with ⟨rfl, B, c', rfl⟩ | ⟨g, of, c', rfl, hp, hcap, hc⟩
  · have hlc : l.length ≤ c := by
      rcases ho1.2 with ⟨e, h0⟩ | ⟨g, cap, cur, e, _, _, hnc, _⟩
      · injection e with _ e2 _; omega
      · injection e with _ _ e3; omega
    refine step_append_none x hgd s t _ ho 3 i0 Try.underlying33 hi A l.length c hs hlc B c' ht ?_
    refine hK _ x ?_
    rw [List.append_nil]
    refine ⟨fun p hp => ?_, fun p hp q hq hne => ?_, h.low⟩
    · rcases List.mem_cons.1 hp with rfl | hp
      · exact ho1
      · exact h.own p (hL p hp).1
    · rcases List.mem_cons.1 hp with rfl | hp
      · rcases List.mem_cons.1 hq with rfl | hq
        · exact absurd rfl hne
        · exact h.ap _ hv q (hL q hq).1 (fun e' => (hL q hq).2 (by rw [← e']))
      · rcases List.mem_cons.1 hq with rfl | hq
        · exact h.ap p (hL p hp).1 (τ, .slice A l.length c, l) hv (fun e' => (hL p hp).2 (by rw [e']))
        · exact h.ap p (hL p hp).1 q (hL q hq).1 hne
  · have hsrc : ∀ j w', (m.flatMap intCells)[j]? = some w' → x.cell? ((⟨g, of, none⟩ : Addr).add j) = some w' := fun j w' hj => by
      have hjl : j < m.length := by have := (List.getElem?_eq_some_iff.1 hj).1; rw [flat_len intLen] at this; omega
      obtain ⟨y, hy⟩ : ∃ y, m[j]? = some y := ⟨_, List.getElem?_eq_getElem hjl⟩
      have e1 := flat_at intLen m j y hy 0 _ rfl
      rw [Nat.mul_one, Nat.add_zero, hj] at e1
      injection e1 with e1
      subst e1
      have e2 := hc j y hy 0 _ rfl
      rw [Addr.add_lit]
      simpa using e2
    refine step_append_keeps x hgd s t _ ho wd.heap.size 3 i0 _ 1 8 Try.underlying33 hi hz0 hz1 hz2 rfl (by omega) (.slice A l.length c) l.length (l.flatMap intCells) hs ho1 ⟨g, of, none⟩ m.length c' (m.flatMap intCells) ht (flat_len intLen m) hsrc (fun y hy => ?_) hp (by unfold maxLen; omega) (by omega) h.low.size ?_
    · obtain ⟨z, _, hz⟩ := List.mem_flatMap.1 hy
      exact int_one z y hz
    · intro g4 cap4 x4 hown hgr hor _ _
      refine hK _ x4 (h.app hv τ' (m := l ++ m) ?_ hgr hor hL)
      unfold OwnInt OwnOf
      rw [List.length_append, List.flatMap_append]
      exact hown
end
theorem mem1 {α : Type} {q a0 : α} (h : q ∈ [a0]) : q = a0 := by simpa using h
theorem wp_of_step {P : Program} {ops : Array Oper} {o : Oper} {a : Act} {w : World} {K : Act → World → Prop} {Q : Exit → Act → World → Prop} (hgd : o.guard = none)
    (h : if Region.wanted o (yielded ops a.tmps) = true then Oper.wp P o a w K Q else False) : Oper.wp P o a w K Q := by
  have hw : Region.wanted o (yielded ops a.tmps) = true := by simp [Region.wanted, hgd]
  rw [if_pos hw] at h
  exact h
end Go.Proofs.Ytlddampjbmklkaa
namespace Go.Proofs.Ytlddampjbmklkaa
open Go.RowKit
set_option maxRecDepth 100000
set_option maxHeartbeats 4000000 in
theorem specShipNamed (v : Value) (l : List ShipD) (s : ByteArray) (w : World) (h : SlShip w v l) (_ : ∀ x ∈ l, ShipD.wf x) :
    Calls Try.prog 78 #[v, .string s] w fun e w' => e = .returned (.int .i64 (shipI l s)) ∧ Below w.heap.size w w' := by
  have HS := Lib.hid h
  have hl := h.1
  obtain ⟨A1, c1, rfl⟩ := h.at
  clear h
  go_enter Try.func78, Try.ntmps78
  go_wp2
  go_loopw [9] (fun i wr => ∃ k : Nat, k ≤ l.length ∧ i = .int .i64 k ∧ Hid (NoOne (shipNm s) l k) ∧ Hid (Below w.heap.size w wr)) (fun i _ => l.length - (intOf i).toNat)
  case atStart => exact ⟨0, Nat.zero_le _, rfl, Lib.hid (NoOne.zero _ _), Lib.hid (Below.refl _ _)⟩
  case round =>
    obtain ⟨k, hk, rfl, hN, hb⟩ := hrel
    by_cases hlt : k < l.length
    · obtain ⟨x, hx⟩ : ∃ x, l[k]? = some x := ⟨_, List.getElem?_eq_getElem hlt⟩
      rcases HS.out.2 with ⟨he, _⟩ | ⟨g, o, c, e, hpos, hcap, hc⟩
      · rw [he] at hlt; simp at hlt
      · injection e with hA _ hcp
        subst hA hcp
        obtain ⟨q0, q1, q2, q3, q4, q5⟩ := SlShip.cells hc k x hx
        have hg : g < w.heap.size := World.block_lt_of_cell? w ⟨g, o + k * 6, none⟩ q0
        have y0 := (hb.out.cell (p := ⟨g, o + k * 6, none⟩) hg).trans q0
        have y1 := (hb.out.cell (p := ⟨g, o + k * 6 + 1, none⟩) hg).trans q1
        have y2 := (hb.out.cell (p := ⟨g, o + k * 6 + 2, none⟩) hg).trans q2
        have y3 := (hb.out.cell (p := ⟨g, o + k * 6 + 3, none⟩) hg).trans q3
        have y4 := (hb.out.cell (p := ⟨g, o + k * 6 + 4, none⟩) hg).trans q4
        have y5 := (hb.out.cell (p := ⟨g, o + k * 6 + 5, none⟩) hg).trans q5
        have HX := Lib.hid hx
        have hzs := hb.out.size
        clear q0 q1 q2 q3 q4 q5 hx hc
        have B2 := Lib.hid (hb.out.alloc hzs (.cells #[.string x.name, .int .i64 x.length, .int .i64 x.draught, .int .i64 x.line, .int .i64 x.tugs, .bool x.slow] 36))
        cases hn : (x.name.toList == s.toList) with
        | true =>
          have E := Lib.hid (firstI_at hN.out HX.out hn)
          go_wp2
          go_ret
          exact ⟨ret_int E.out.symm, B2.out⟩
        | false =>
          have N2 := Lib.hid (hN.out.next HX.out hn)
          go_wp2
          go_roundw
          case rel => exact ⟨k + 1, by omega, by go_num, N2, B2⟩
          case measure => simp [intOf]; omega
    · obtain rfl : k = l.length := by omega
      have E := Lib.hid (firstI_none hN.out)
      go_wp2
      go_ret
      exact ⟨ret_int E.out.symm, hb.out⟩
/-- The closure of ShipNamed. -/
theorem named1 (x : ShipD) (s : ByteArray) (Ba : Nat) (w : World) (ha : w.cell? ⟨Ba, 0, none⟩ = some (.string s)) :
    Calls Try.prog 84 #[x.val, .pointer (some ⟨Ba, 0, none⟩)] w fun e w' => e = .returned (.bool (shipNm s x)) ∧ Below w.heap.size w w' := by
  obtain ⟨na, le, dr, li, tu, sl⟩ := x
  have B := Lib.hid (Joins.below_alloc1 w (.cells #[.string na, .int .i64 le, .int .i64 dr, .int .i64 li, .int .i64 tu, .bool sl] 36))
  have ya := (B.out.cell (p := ⟨Ba, 0, none⟩) (World.block_lt_of_cell? w _ ha)).trans ha
  clear ha
  cases h1 : (na.toList == s.toList)
  all_goals
    have E := Lib.hid (show shipNm s ⟨na, le, dr, li, tu, sl⟩ = _ from h1)
    go_enter Try.func84, Try.ntmps84
    go_wp2
    go_ret
    exact ⟨ret_bool E.out.symm, B.out⟩
set_option maxHeartbeats 2000000 in
/-- slices.IndexFunc over ships, with any closure whose answers are p. -/
theorem shipIndex_any (fv : Value) (p : ShipD → Bool) (v : Value) (l : List ShipD) (s : ByteArray) (Ba : Nat) (w : World) (h : SlShip w v l) (ha : w.cell? ⟨Ba, 0, none⟩ = some (.string s)) (hp : p = shipNm s) (hfv : fv = .func (.func 84) #[] #[.pointer (some ⟨Ba, 0, none⟩)]) :
    Calls Try.prog 83 #[v, fv] w fun e w' => e = .returned (.int .i64 (firstI p l)) ∧ Below w.heap.size w w' := by
  subst hp hfv
  have HS := Lib.hid h
  have hl := h.1
  obtain ⟨A1, c1, rfl⟩ := h.at
  have hla : Ba < w.heap.size := World.block_lt_of_cell? w _ ha
  have HA := Lib.hid ha
  clear h ha
  go_enter Try.func83, Try.ntmps83
  go_wp2
  go_loopw [8] (fun i wr => ∃ k : Nat, k ≤ l.length ∧ i = .int .i64 k ∧ Hid (NoOne (shipNm s) l k) ∧ Hid (Below w.heap.size w wr)) (fun i _ => l.length - (intOf i).toNat)
  case atStart => exact ⟨0, Nat.zero_le _, rfl, Lib.hid (NoOne.zero _ _), Lib.hid (Below.refl _ _)⟩
  case round =>
    obtain ⟨k, hk, rfl, hN, hb⟩ := hrel
    by_cases hlt : k < l.length
    · obtain ⟨x, hx⟩ : ∃ x, l[k]? = some x := ⟨_, List.getElem?_eq_getElem hlt⟩
      rcases HS.out.2 with ⟨he, _⟩ | ⟨g, o, c, e, hpos, hcap, hc⟩
      · rw [he] at hlt; simp at hlt
      · injection e with hA _ hcp
        subst hA hcp
        obtain ⟨q0, q1, q2, q3, q4, q5⟩ := SlShip.cells hc k x hx
        have hg : g < w.heap.size := World.block_lt_of_cell? w ⟨g, o + k * 6, none⟩ q0
        have y0 := (hb.out.cell (p := ⟨g, o + k * 6, none⟩) hg).trans q0
        have y1 := (hb.out.cell (p := ⟨g, o + k * 6 + 1, none⟩) hg).trans q1
        have y2 := (hb.out.cell (p := ⟨g, o + k * 6 + 2, none⟩) hg).trans q2
        have y3 := (hb.out.cell (p := ⟨g, o + k * 6 + 3, none⟩) hg).trans q3
        have y4 := (hb.out.cell (p := ⟨g, o + k * 6 + 4, none⟩) hg).trans q4
        have y5 := (hb.out.cell (p := ⟨g, o + k * 6 + 5, none⟩) hg).trans q5
        have YA := Lib.hid ((hb.out.cell (p := ⟨Ba, 0, none⟩) hla).trans HA.out)
        have HX := Lib.hid hx
        clear q0 q1 q2 q3 q4 q5 hx hc
        obtain ⟨t, ht⟩ : ∃ t, shipNm s x = t := ⟨_, rfl⟩
        have HT := Lib.hid ht
        clear ht
        go_wp2_with fail
        refine (named1 x s Ba _ YA.out).mono ?_
        rw [HT.out]
        rintro e w5 ⟨rfl, hb5⟩
        have hb6 := Lib.hid (hb.out.trans (hb5.mono hb.out.size))
        clear hb5 y0 y1 y2 y3 y4 y5
        cases t with
        | true =>
          have E := Lib.hid (firstI_at hN.out HX.out HT.out)
          go_wp2
          go_ret
          exact ⟨ret_int E.out.symm, hb6.out⟩
        | false =>
          have N2 := Lib.hid (hN.out.next HX.out HT.out)
          go_wp2
          go_roundw
          case rel => exact ⟨k + 1, by omega, by go_num, N2, hb6⟩
          case measure => simp [intOf]; omega
    · obtain rfl : k = l.length := by omega
      have E := Lib.hid (firstI_none hN.out)
      go_wp2
      go_ret
      exact ⟨ret_int E.out.symm, hb.out⟩
theorem implShipNamed (v : Value) (l : List ShipD) (s : ByteArray) (w : World) (h : SlShip w v l) (_ : ∀ x ∈ l, ShipD.wf x) (_ : s.size ≤ maxLen) :
    Calls Try.prog 72 #[v, .string s] w fun e w' => e = .returned (.int .i64 (shipI l s)) ∧ Below w.heap.size w w' := by
  have B := Lib.hid (Joins.below_alloc1 w (.cells #[.string s] 9))
  have HS := Lib.hid (SlShip.below h B.out)
  obtain ⟨A1, c1, rfl⟩ := h.at
  have C0 := Lib.hid (show (w.alloc (.cells #[.string s] 9)).cell? ⟨w.heap.size, 0, none⟩ = some (.string s) from (Blk.new w #[.string s] 9).cell 0)
  clear h
  go_enter Try.func72, Try.ntmps72
  go_wp2_with fail
  refine (shipIndex_any _ (shipNm s) _ l s _ _ HS.out C0.out rfl rfl).mono ?_
  rintro e w1 ⟨rfl, hb1⟩
  have B1 := Lib.hid (B.out.trans (hb1.mono B.out.size))
  clear hb1
  go_wp2
  go_ret
  exact ⟨rfl, B1.out⟩
set_option maxHeartbeats 8000000 in
theorem specFleetOk (v : Value) (l : List ShipD) (w : World) (h : SlShip w v l) (hw : ∀ x ∈ l, ShipD.wf x) :
    Calls Try.prog 55 #[v] w fun e w' => e = .returned (.bool (fleetB l)) ∧ Below w.heap.size w w' := by
  have HS := Lib.hid h
  have HWF := Lib.hid hw
  have hl := h.1
  obtain ⟨A1, c1, rfl⟩ := h.at
  clear h hw
  by_cases hlen : 6 < l.length
  · have E := Lib.hid (fleetB_long hlen)
    go_enter Try.func55, Try.ntmps55
    go_wp2
    go_ret
    exact ⟨ret_bool E.out.symm, Below.refl _ _⟩
  go_enter Try.func55, Try.ntmps55
  go_wp2
  go_loopw [10] (fun i wr => ∃ k : Nat, k ≤ l.length ∧ i = .int .i64 k ∧ Hid (FirstF l k) ∧ Hid (Below w.heap.size w wr)) (fun i _ => l.length - (intOf i).toNat)
  case atStart => exact ⟨0, Nat.zero_le _, rfl, Lib.hid (FirstF.zero _), Lib.hid (Below.refl _ _)⟩
  case round =>
    obtain ⟨k, hk, rfl, hF, hb⟩ := hrel
    have hzs := hb.out.size
    by_cases hlt : k < l.length
    · obtain ⟨x, hx⟩ : ∃ x, l[k]? = some x := ⟨_, List.getElem?_eq_getElem hlt⟩
      rcases HS.out.2 with ⟨he, _⟩ | ⟨g, o, c, e, hpos, hcap, hc⟩
      · rw [he] at hlt; simp at hlt
      · injection e with hA _ hcp
        subst hA hcp
        obtain ⟨q0, q1, q2, q3, q4, q5⟩ := SlShip.cells hc k x hx
        have hg : g < w.heap.size := World.block_lt_of_cell? w ⟨g, o + k * 6, none⟩ q0
        have y0 := (hb.out.cell (p := ⟨g, o + k * 6, none⟩) hg).trans q0
        have y1 := (hb.out.cell (p := ⟨g, o + k * 6 + 1, none⟩) hg).trans q1
        have y2 := (hb.out.cell (p := ⟨g, o + k * 6 + 2, none⟩) hg).trans q2
        have y3 := (hb.out.cell (p := ⟨g, o + k * 6 + 3, none⟩) hg).trans q3
        have y4 := (hb.out.cell (p := ⟨g, o + k * 6 + 4, none⟩) hg).trans q4
        have y5 := (hb.out.cell (p := ⟨g, o + k * 6 + 5, none⟩) hg).trans q5
        have HX := Lib.hid hx
        have XW := Lib.hid (HWF.out x (List.mem_of_getElem? hx))
        clear q0 q1 q2 q3 q4 q5 hx hc
        have hal := Joins.below_alloc1 wr (.cells #[.string x.name, .int .i64 x.length, .int .i64 x.draught, .int .i64 x.line, .int .i64 x.tugs, .bool x.slow] 36)
        have hb2 := Lib.hid (hb.out.trans (hal.mono hzs))
        have SB := Lib.hid (Blk.new wr #[.string x.name, .int .i64 x.length, .int .i64 x.draught, .int .i64 x.line, .int .i64 x.tugs, .bool x.slow] 36)
        clear hal
        obtain ⟨t, ht⟩ : ∃ t, shipB x = t := ⟨_, rfl⟩
        have HT := Lib.hid ht
        clear ht
        go_wp2_with fail
        refine (specShipOk x _ XW.out).mono ?_
        rw [HT.out]
        rintro e w2 ⟨rfl, hb3⟩
        have z0 := (SB.out.below hb3).cell 0
        simp at z0
        have hb4 := Lib.hid (hb2.out.trans (hb3.mono hb2.out.size))
        clear hb3 y0 y1 y2 y3 y4 y5
        cases t with
        | false =>
          have E := Lib.hid (fleetB_no hlt (by rw [flAt_at HX.out, HT.out]; rfl))
          go_wp2
          go_ret
          exact ⟨ret_bool E.out.symm, hb4.out⟩
        | true =>
          obtain ⟨nI, hnI⟩ : ∃ n, shipI l x.name = n := ⟨_, rfl⟩
          have HNI := Lib.hid hnI
          clear hnI
          go_wp2_with fail
          refine (specShipNamed _ l x.name _ (HS.out.below hb4.out) HWF.out).mono ?_
          rw [HNI.out]
          rintro e w3 ⟨rfl, hb5⟩
          have hb6 := Lib.hid (hb4.out.trans (hb5.mono hb4.out.size))
          clear hb5 z0
          cases he : (nI == (k : Int)) with
          | false =>
            have E := Lib.hid (fleetB_no hlt (by rw [flAt_at HX.out, HT.out, HNI.out, he]; rfl))
            have he' : nI ≠ (k : Int) := by simpa using he
            go_wp2
            go_ret
            exact ⟨ret_bool E.out.symm, hb6.out⟩
          | true =>
            have F2 := Lib.hid (hF.out.next (by rw [flAt_at HX.out, HT.out, HNI.out, he]; rfl))
            have he' : nI = (k : Int) := by simpa using he
            subst he'
            go_wp2
            go_roundw
            case rel => exact ⟨k + 1, by omega, by go_num, F2, hb6⟩
            case measure => simp [intOf]; omega
    · obtain rfl : k = l.length := by omega
      have E := Lib.hid (fleetB_mk (by omega) hF.out)
      go_wp2
      go_ret
      exact ⟨ret_bool E.out.symm, hb.out⟩
set_option maxHeartbeats 8000000 in
theorem implFleetOk (v : Value) (l : List ShipD) (w : World) (h : SlShip w v l) (hw : ∀ x ∈ l, ShipD.wf x) :
    Calls Try.prog 46 #[v] w fun e w' => e = .returned (.bool (fleetB l)) ∧ Below w.heap.size w w' := by
  have HS := Lib.hid h
  have HWF := Lib.hid hw
  have hl := h.1
  obtain ⟨A1, c1, rfl⟩ := h.at
  clear h hw
  by_cases hlen : 6 < l.length
  · have E := Lib.hid (fleetB_long hlen)
    go_enter Try.func46, Try.ntmps46
    go_wp2
    go_ret
    exact ⟨ret_bool E.out.symm, Below.refl _ _⟩
  go_enter Try.func46, Try.ntmps46
  go_wp2
  go_loopw [10] (fun i wr => ∃ k : Nat, k ≤ l.length ∧ i = .int .i64 k ∧ Hid (FirstF l k) ∧ Hid (Below w.heap.size w wr)) (fun i _ => l.length - (intOf i).toNat)
  case atStart => exact ⟨0, Nat.zero_le _, rfl, Lib.hid (FirstF.zero _), Lib.hid (Below.refl _ _)⟩
  case round =>
    obtain ⟨k, hk, rfl, hF, hb⟩ := hrel
    have hzs := hb.out.size
    by_cases hlt : k < l.length
    · obtain ⟨x, hx⟩ : ∃ x, l[k]? = some x := ⟨_, List.getElem?_eq_getElem hlt⟩
      rcases HS.out.2 with ⟨he, _⟩ | ⟨g, o, c, e, hpos, hcap, hc⟩
      · rw [he] at hlt; simp at hlt
      · injection e with hA _ hcp
        subst hA hcp
        obtain ⟨q0, q1, q2, q3, q4, q5⟩ := SlShip.cells hc k x hx
        have hg : g < w.heap.size := World.block_lt_of_cell? w ⟨g, o + k * 6, none⟩ q0
        have y0 := (hb.out.cell (p := ⟨g, o + k * 6, none⟩) hg).trans q0
        have y1 := (hb.out.cell (p := ⟨g, o + k * 6 + 1, none⟩) hg).trans q1
        have y2 := (hb.out.cell (p := ⟨g, o + k * 6 + 2, none⟩) hg).trans q2
        have y3 := (hb.out.cell (p := ⟨g, o + k * 6 + 3, none⟩) hg).trans q3
        have y4 := (hb.out.cell (p := ⟨g, o + k * 6 + 4, none⟩) hg).trans q4
        have y5 := (hb.out.cell (p := ⟨g, o + k * 6 + 5, none⟩) hg).trans q5
        have HX := Lib.hid hx
        have XW := Lib.hid (HWF.out x (List.mem_of_getElem? hx))
        clear q0 q1 q2 q3 q4 q5 hx hc
        have hal := Joins.below_alloc1 wr (.cells #[.string x.name, .int .i64 x.length, .int .i64 x.draught, .int .i64 x.line, .int .i64 x.tugs, .bool x.slow] 36)
        have hb2 := Lib.hid (hb.out.trans (hal.mono hzs))
        have SB := Lib.hid (Blk.new wr #[.string x.name, .int .i64 x.length, .int .i64 x.draught, .int .i64 x.line, .int .i64 x.tugs, .bool x.slow] 36)
        clear hal
        obtain ⟨t, ht⟩ : ∃ t, shipB x = t := ⟨_, rfl⟩
        have HT := Lib.hid ht
        clear ht
        go_wp2_with fail
        refine (implShipOk x _ XW.out).mono ?_
        rw [HT.out]
        rintro e w2 ⟨rfl, hb3⟩
        have z0 := (SB.out.below hb3).cell 0
        simp at z0
        have hb4 := Lib.hid (hb2.out.trans (hb3.mono hb2.out.size))
        clear hb3 y0 y1 y2 y3 y4 y5
        cases t with
        | false =>
          have E := Lib.hid (fleetB_no hlt (by rw [flAt_at HX.out, HT.out]; rfl))
          go_wp2
          go_ret
          exact ⟨ret_bool E.out.symm, hb4.out⟩
        | true =>
          obtain ⟨nI, hnI⟩ : ∃ n, shipI l x.name = n := ⟨_, rfl⟩
          have HNI := Lib.hid hnI
          clear hnI
          go_wp2_with fail
          refine (implShipNamed _ l x.name _ (HS.out.below hb4.out) HWF.out XW.out.1).mono ?_
          rw [HNI.out]
          rintro e w3 ⟨rfl, hb5⟩
          have hb6 := Lib.hid (hb4.out.trans (hb5.mono hb4.out.size))
          clear hb5 z0
          cases he : (nI == (k : Int)) with
          | false =>
            have E := Lib.hid (fleetB_no hlt (by rw [flAt_at HX.out, HT.out, HNI.out, he]; rfl))
            have he' : nI ≠ (k : Int) := by simpa using he
            go_wp2
            go_ret
            exact ⟨ret_bool E.out.symm, hb6.out⟩
          | true =>
            have F2 := Lib.hid (hF.out.next (by rw [flAt_at HX.out, HT.out, HNI.out, he]; rfl))
            have he' : nI = (k : Int) := by simpa using he
            subst he'
            go_wp2
            go_roundw
            case rel => exact ⟨k + 1, by omega, by go_num, F2, hb6⟩
            case measure => simp [intOf]; omega
    · obtain rfl : k = l.length := by omega
      have E := Lib.hid (fleetB_mk (by omega) hF.out)
      go_wp2
      go_ret
      exact ⟨ret_bool E.out.symm, hb.out⟩
end Go.Proofs.Ytlddampjbmklkaa
