
/- What LocksLaw rests on, part 12: contracts and mathematics. -/
import Derived.Test.YtlddampjbmklkaaLkTk
import Derived.Test.YtlddampjbmklkaaLk8
namespace Go.Proofs.Ytlddampjbmklkaa
open Go.RowKit
set_option maxRecDepth 100000
theorem own_ltR {α : Type} {n : Nat} {cs : α → List Value} {w : World} {v : Value} {l : List α} (hc : ∀ x, cs x ≠ []) (h : SlOf n cs w v l) (hne : l ≠ []) {b : Nat} (e : v.ownBlock = some b) : b < w.heap.size := by
  rcases h.2 with ⟨h0, _⟩ | ⟨g, o, c, rfl, hp, _, hx⟩
  · exact absurd h0 hne
  · obtain ⟨x, hx0⟩ : ∃ x, l[0]? = some x := ⟨_, List.getElem?_eq_getElem hp⟩
    obtain ⟨u, hu⟩ : ∃ u, (cs x)[0]? = some u := ⟨_, List.getElem?_eq_getElem (List.length_pos_iff.2 (hc x))⟩
    have := World.block_lt_of_cell? w _ (hx 0 x hx0 0 u hu)
    have e' : g = b := Option.some.inj e
    rw [← e']
    exact this
theorem made_zero (n : Nat) (_ : n ≤ 3) : madeCells #[Value.int .i64 0] (n * 1) = rowI (List.replicate n 0) := by
  apply Array.ext'
  have h := made_flat #[Value.int .i64 0] n
  simp at h ⊢
  simpa using h
set_option maxHeartbeats 8000000 in
theorem specPackShips (k : ChamberD) (yl : Value) (l : List Int) (w : World) (rl : SlInt w yl l) :
    Calls Try.prog 58 #[k.val, yl] w (fun e w' => ∃ v, e = .returned (.tuple #[v, .bool (packO k l).isSome]) ∧ OwnInt w' w.heap.size v ((packO k l).getD []) ∧ Below w.heap.size w w') := by
  have Rl := Lib.hid rl
  obtain ⟨Al, cl, rfl⟩ := SlOf.form rl
  clear rl
  obtain ⟨W0, hW0⟩ : ∃ W0, W0 = (w.alloc (.cells #[.int .i64 k.length, .int .i64 k.lanes, .int .i64 k.minutes] 24)) := ⟨_, rfl⟩
  have B := Lib.hid (Joins.below_alloc1 w (.cells #[.int .i64 k.length, .int .i64 k.lanes, .int .i64 k.minutes] 24))
  have Kk := Lib.hid (Blk.new w #[.int .i64 k.length, .int .i64 k.lanes, .int .i64 k.minutes] 24)
  have HW0 := Lib.hid hW0
  rw [← hW0] at B Kk
  clear hW0
  obtain ⟨b1, hb1⟩ : ∃ b, chamB k = b := ⟨_, rfl⟩
  have Hb1 := Lib.hid hb1
  obtain ⟨b2, hb2⟩ : ∃ b, lensB l = b := ⟨_, rfl⟩
  have Hb2 := Lib.hid hb2
  cases b1 with
  | false =>
    have E := Lib.hid (packO_bad (l := l) (k := k) (by rw [hb1]; simp))
    clear hb1 hb2
    go_enter Try.func58, Try.ntmps58
    have vk0 : W0.cell? ⟨w.heap.size, 0, none⟩ = some (.int .i64 k.length) := Kk.out.cell 0
    have vk1 : W0.cell? ⟨w.heap.size, 1, none⟩ = some (.int .i64 k.lanes) := Kk.out.cell 1
    have vk2 : W0.cell? ⟨w.heap.size, 2, none⟩ = some (.int .i64 k.minutes) := Kk.out.cell 2
    go_wp2_with fail
    rw [← HW0.out]
    clear vk0 vk1 vk2
    refine (specChamberOk k _).mono ?_
    rw [Hb1.out]
    rintro e w1 ⟨rfl, hb1⟩
    have B1 := Lib.hid (B.out.trans (hb1.mono B.out.size))
    have Kk_1 := Lib.hid (Kk.out.below hb1)
    clear hb1
    have vk0 : w1.cell? ⟨w.heap.size, 0, none⟩ = some (.int .i64 k.length) := Kk_1.out.cell 0
    have vk1 : w1.cell? ⟨w.heap.size, 1, none⟩ = some (.int .i64 k.lanes) := Kk_1.out.cell 1
    have vk2 : w1.cell? ⟨w.heap.size, 2, none⟩ = some (.int .i64 k.minutes) := Kk_1.out.cell 2
    go_wp2
    refine bodyPost_ret (v := .tuple #[.slice none 0 0, .bool false]) (by simp [results, Try.results58, go_sem]) rfl ⟨.slice none 0 0, by rw [E.out]; rfl, by rw [E.out]; exact World.ownsRow_nil _ _ _ _, B1.out⟩
  | true =>
  cases b2 with
  | false =>
    have E := Lib.hid (packO_bad (l := l) (k := k) (by rw [hb2]; simp))
    clear hb1 hb2
    go_enter Try.func58, Try.ntmps58
    have vk0 : W0.cell? ⟨w.heap.size, 0, none⟩ = some (.int .i64 k.length) := Kk.out.cell 0
    have vk1 : W0.cell? ⟨w.heap.size, 1, none⟩ = some (.int .i64 k.lanes) := Kk.out.cell 1
    have vk2 : W0.cell? ⟨w.heap.size, 2, none⟩ = some (.int .i64 k.minutes) := Kk.out.cell 2
    go_wp2_with fail
    rw [← HW0.out]
    clear vk0 vk1 vk2
    refine (specChamberOk k _).mono ?_
    rw [Hb1.out]
    rintro e w1 ⟨rfl, hb1⟩
    have B1 := Lib.hid (B.out.trans (hb1.mono B.out.size))
    have Kk_1 := Lib.hid (Kk.out.below hb1)
    clear hb1
    have vk0 : w1.cell? ⟨w.heap.size, 0, none⟩ = some (.int .i64 k.length) := Kk_1.out.cell 0
    have vk1 : w1.cell? ⟨w.heap.size, 1, none⟩ = some (.int .i64 k.lanes) := Kk_1.out.cell 1
    have vk2 : w1.cell? ⟨w.heap.size, 2, none⟩ = some (.int .i64 k.minutes) := Kk_1.out.cell 2
    go_wp2_with fail
    clear vk0 vk1 vk2
    refine (specLengthsOk _ l _ (Rl.out.below B1.out)).mono ?_
    rw [Hb2.out]
    rintro e w2 ⟨rfl, hb2⟩
    have B2 := Lib.hid (B1.out.trans (hb2.mono B1.out.size))
    have Kk_2 := Lib.hid (Kk_1.out.below hb2)
    clear hb2
    have vk0 : w2.cell? ⟨w.heap.size, 0, none⟩ = some (.int .i64 k.length) := Kk_2.out.cell 0
    have vk1 : w2.cell? ⟨w.heap.size, 1, none⟩ = some (.int .i64 k.lanes) := Kk_2.out.cell 1
    have vk2 : w2.cell? ⟨w.heap.size, 2, none⟩ = some (.int .i64 k.minutes) := Kk_2.out.cell 2
    go_wp2
    refine bodyPost_ret (v := .tuple #[.slice none 0 0, .bool false]) (by simp [results, Try.results58, go_sem]) rfl ⟨.slice none 0 0, by rw [E.out]; rfl, by rw [E.out]; exact World.ownsRow_nil _ _ _ _, B2.out⟩
  | true =>
  have E0 := Lib.hid (packO_ok hb1 hb2)
  obtain ⟨kl0, kl1, ka0, ka1, -, -⟩ := chamB_true hb1
  obtain ⟨n, hn⟩ : ∃ n, k.lanes.toNat = n := ⟨_, rfl⟩
  have hkn : k.lanes = (n : Int) := by omega
  have hn3 : n ≤ 3 := by omega
  have hn1 : 1 ≤ n := by omega
  have HN := Lib.hid hn
  have HKN := Lib.hid hkn
  obtain ⟨m, hm⟩ : ∃ m, l.length = m := ⟨_, rfl⟩
  have HM := Lib.hid hm
  have hl8 := lensB_len hb2
  have PK := Lib.hid (packAll k hb1 l hb2 l.length)
  rw [hm] at hl8
  clear hb1 hb2 hn hkn hm
  go_enter Try.func58, Try.ntmps58
  have vk0 : W0.cell? ⟨w.heap.size, 0, none⟩ = some (.int .i64 k.length) := Kk.out.cell 0
  have vk1 : W0.cell? ⟨w.heap.size, 1, none⟩ = some (.int .i64 k.lanes) := Kk.out.cell 1
  have vk2 : W0.cell? ⟨w.heap.size, 2, none⟩ = some (.int .i64 k.minutes) := Kk.out.cell 2
  go_wp2_with fail
  rw [← HW0.out]
  clear vk0 vk1 vk2
  refine (specChamberOk k _).mono ?_
  rw [Hb1.out]
  rintro e w1 ⟨rfl, hb1⟩
  have B1 := Lib.hid (B.out.trans (hb1.mono B.out.size))
  have Kk_1 := Lib.hid (Kk.out.below hb1)
  clear hb1
  have vk0 : w1.cell? ⟨w.heap.size, 0, none⟩ = some (.int .i64 k.length) := Kk_1.out.cell 0
  have vk1 : w1.cell? ⟨w.heap.size, 1, none⟩ = some (.int .i64 k.lanes) := Kk_1.out.cell 1
  have vk2 : w1.cell? ⟨w.heap.size, 2, none⟩ = some (.int .i64 k.minutes) := Kk_1.out.cell 2
  go_wp2_with fail
  clear vk0 vk1 vk2
  refine (specLengthsOk _ l _ (Rl.out.below B1.out)).mono ?_
  rw [Hb2.out]
  rintro e w2 ⟨rfl, hb2⟩
  have B2 := Lib.hid (B1.out.trans (hb2.mono B1.out.size))
  have Kk_2 := Lib.hid (Kk_1.out.below hb2)
  clear hb2
  have RLw := Lib.hid (SlOf.below Rl.out B2.out)
  skip
  obtain ⟨w5, hw5⟩ : ∃ X, X = w2.drew := ⟨_, rfl⟩
  have hd5 := (Below.refl w2.heap.size w2).drew
  rw [← hw5] at hd5
  have L5 := Lib.hid (Liv.nil w5)
  have L5b := Lib.hid (Below.refl w5.heap.size w5)
  have HD5 := Lib.hid hd5
  have B5 := Lib.hid (B2.out.trans (hd5.mono B2.out.size))
  have RL5 := Lib.hid (SlOf.below RLw.out hd5)
  have KC5 := Lib.hid (Kk_2.out.below hd5)
  have HW5 := Lib.hid hw5
  clear hd5 hw5
  have C0 := Lib.hid (show w5.cell? ⟨w.heap.size, 0, none⟩ = some (.int .i64 k.length) from KC5.out.cell 0)
  have C1 := Lib.hid (show w5.cell? ⟨w.heap.size, 1, none⟩ = some (.int .i64 k.lanes) from KC5.out.cell 1)
  have C2 := Lib.hid (show w5.cell? ⟨w.heap.size, 2, none⟩ = some (.int .i64 k.minutes) from KC5.out.cell 2)
  have e0 : w2.cell? ⟨w.heap.size, 0, none⟩ = some (.int .i64 k.length) := Kk_2.out.cell 0
  have e1 : w2.cell? ⟨w.heap.size, 1, none⟩ = some (.int .i64 k.lanes) := Kk_2.out.cell 1
  have e2 : w2.cell? ⟨w.heap.size, 2, none⟩ = some (.int .i64 k.minutes) := Kk_2.out.cell 2
  go_upto_region 3 with fail
  refine wp_region_held_drew (S := (fun w' => w'.cell? ⟨w.heap.size, 0, none⟩ = some (.int .i64 k.length) ∧ w'.cell? ⟨w.heap.size, 1, none⟩ = some (.int .i64 k.lanes) ∧ w'.cell? ⟨w.heap.size, 2, none⟩ = some (.int .i64 k.minutes))) (by kernel_rfl) ?_ (fun hHeld => ?_)
  · (try dsimp only); go_keep
  rw [← HW5.out] at hHeld ⊢
  clear e0 e1 e2
  refine tk 0 ?_
  (try simp only [Act.put]); (try simp only [List.setIfInBounds_toArray]); (try simp only [List.set_cons_succ]); (try simp only [List.set_cons_zero])
  refine tk 1 ?_
  (try simp only [Act.put]); (try simp only [List.setIfInBounds_toArray]); (try simp only [List.set_cons_succ]); (try simp only [List.set_cons_zero])
  refine tk 2 ?_
  (try simp only [Act.put]); (try simp only [List.setIfInBounds_toArray]); (try simp only [List.set_cons_succ]); (try simp only [List.set_cons_zero])
  refine tk 3 ?_
  (try simp only [Act.put]); (try simp only [List.setIfInBounds_toArray]); (try simp only [List.set_cons_succ]); (try simp only [List.set_cons_zero])
  refine wpAnyH_ready (rs := [4, 5]) (by kernel_rfl) (by simp) ?_
  refine AllReadyH.cons rfl (fun K hK => ?_) (AllReadyH.cons rfl (fun K hK => ?_) (AllReadyH.nil))
  · skip
    have hmk := make_ints n (by omega)
    rw [← HKN.out] at hmk
    rw [if_pos (by rfl)]
    go_simp
    skip
    have hmz := made_zero n hn3
    rw [Nat.mul_one] at hmz
    rw [hmz]
    clear hmk hmz
    have hal := Joins.below_alloc1 w5 (.cells (rowI (List.replicate n 0)) 3)
    have KU := Blk.new w5 (rowI (List.replicate n 0)) 3
    obtain ⟨x6, hx_⟩ : ∃ X, X = w5.alloc (.cells (rowI (List.replicate n 0)) 3) := ⟨_, rfl⟩
    obtain ⟨g4, hg_⟩ : ∃ g, g = w5.heap.size := ⟨_, rfl⟩
    rw [← hx_, ← hg_] at KU
    have KU := Lib.hid KU
    rw [← hx_] at hal
    rw [← hx_, ← hg_]
    have hb6 := Lib.hid (L5b.out.trans (hal.mono L5b.out.size))
    have HG4 := Lib.hid (show g4 = w5.heap.size from hg_)
    have hsz6 : w5.heap.size < x6.heap.size := by rw [hx_]; simp
    clear hal hx_ hg_
    refine hK.out _ _ ⟨cell_onV C0.out hb6.out, cell_onV C1.out hb6.out, cell_onV C2.out hb6.out⟩ (fun hHeld => ?_)
    clear hK K
    (try simp only [Act.put]); (try simp only [List.setIfInBounds_toArray]); (try simp only [List.set_cons_succ]); (try simp only [List.set_cons_zero])
    refine wpAnyH_ready (rs := [5]) (by kernel_rfl) (by simp) ?_
    refine AllReadyH.cons rfl (fun K hK => ?_) (AllReadyH.nil)
    rw [if_pos (by rfl)]
    go_simp
    have hal := Joins.below_alloc1 x6 (.cells #[] 3)
    have OL := (Liv.build (Liv.nil x6) 0 [] (by simp)).own _ List.mem_cons_self
    obtain ⟨x7, hx_⟩ : ∃ X, X = x6.alloc (.cells #[] 3) := ⟨_, rfl⟩
    obtain ⟨g5, hg_⟩ : ∃ g, g = x6.heap.size := ⟨_, rfl⟩
    have OL : OwnInt x7 x6.heap.size (.slice (some ⟨g5, 0, none⟩) 0 0) [] := by rw [hx_, hg_]; exact OL
    have OL := Lib.hid OL
    rw [← hx_] at hal
    rw [← hx_, ← hg_]
    have hb7 := Lib.hid (hb6.out.trans (hal.mono hb6.out.size))
    have HG5 := Lib.hid (show g5 = x6.heap.size from hg_)
    have hsz7 : x6.heap.size < x7.heap.size := by rw [hx_]; simp
    have KU := Lib.hid (KU.out.below hal)
    clear hal hx_ hg_
    refine hK.out _ _ ⟨cell_onV C0.out hb7.out, cell_onV C1.out hb7.out, cell_onV C2.out hb7.out⟩ (fun hHeld => ?_)
    clear hK K
    (try simp only [Act.put]); (try simp only [List.setIfInBounds_toArray]); (try simp only [List.set_cons_succ]); (try simp only [List.set_cons_zero])
    have hne45 : g5 ≠ g4 := by have h1 := HG4.out; have h2 := HG5.out; omega
    have hl5 := hb7.out.size
    have hg4w : w5.heap.size ≤ g4 := by have h1 := HG4.out; omega
    have IH := PK.out 0 (List.replicate n 0) [] _ _ g4 w5.heap.size n x7 (by omega) (by rw [HN.out]; simp) (fun j hj => by
      rw [List.getD, List.getElem?_replicate]
      split <;> simp <;> omega) rfl (SlOf.below RL5.out hb7.out) (fun hne e => by have h1 := own_ltR (fun x => by simp [intCells]) RL5.out hne e; omega) (own_lo OL.out (by omega)) (fun e => hne45 (Option.some.inj e)) hb7.out.size KU.out
    rw [HN.out, show ((0 : Nat) : Int) = 0 from rfl] at IH
    have IH := Lib.hid IH
    refine wpAnyH_ready (rs := [6]) (by kernel_rfl) (by simp) ?_
    refine AllReadyH.cons rfl (fun K hK => ?_) AllReadyH.nil
    rw [if_pos (by rfl)]
    go_simp
    go_at_call 80
    refine IH.out.mono ?_
    rintro e wz ⟨v, rfl, ho, hbz⟩
    have er : resI k l 0 (List.replicate n 0) = packO k l := by unfold resI; rw [E0.out, HN.out, List.drop_zero]
    rw [er] at ho ⊢
    obtain ⟨po, hpo⟩ : ∃ p, packO k l = p := ⟨_, rfl⟩
    rw [hpo] at ho ⊢
    have HB := Lib.hid (hb7.out.trans (hbz.mono hb7.out.size))
    have HO := Lib.hid ho
    have HPO := Lib.hid hpo
    clear ho hbz er IH hpo
    go_simp
    refine hK.out _ _ ⟨cell_onV C0.out HB.out, cell_onV C1.out HB.out, cell_onV C2.out HB.out⟩ (fun hHeld => ?_)
    clear hK K
    (try simp only [Act.put]); (try simp only [List.setIfInBounds_toArray]); (try simp only [List.set_cons_succ]); (try simp only [List.set_cons_zero])
    refine tk 7 ?_
    (try simp only [Act.put]); (try simp only [List.setIfInBounds_toArray]); (try simp only [List.set_cons_succ]); (try simp only [List.set_cons_zero])
    refine tk 8 ?_
    (try simp only [Act.put]); (try simp only [List.setIfInBounds_toArray]); (try simp only [List.set_cons_succ]); (try simp only [List.set_cons_zero])
    refine tk 9 ?_
    (try simp only [Act.put]); (try simp only [List.setIfInBounds_toArray]); (try simp only [List.set_cons_succ]); (try simp only [List.set_cons_zero])
    refine tk 10 ?_
    (try simp only [Act.put]); (try simp only [List.setIfInBounds_toArray]); (try simp only [List.set_cons_succ]); (try simp only [List.set_cons_zero])
    refine wpAnyH_done (by kernel_rfl) ?_ _
    have hz5 := B5.out.size
    go_wp2
    refine bodyPost_ret (v := .tuple #[v, .bool po.isSome]) (by simp [results, Try.results58, go_sem]) rfl ⟨v, by rw [HPO.out], ?_, B5.out.trans (HB.out.mono hz5)⟩
    have z := own_lo (base' := w.heap.size) HO.out hz5
    rw [HPO.out]
    cases po with
    | none => exact z
    | some s => exact z
  · skip
    rw [if_pos (by rfl)]
    go_simp
    have hal := Joins.below_alloc1 w5 (.cells #[] 3)
    have OL := (Liv.build (Liv.nil w5) 0 [] (by simp)).own _ List.mem_cons_self
    obtain ⟨x6, hx_⟩ : ∃ X, X = w5.alloc (.cells #[] 3) := ⟨_, rfl⟩
    obtain ⟨g5, hg_⟩ : ∃ g, g = w5.heap.size := ⟨_, rfl⟩
    have OL : OwnInt x6 w5.heap.size (.slice (some ⟨g5, 0, none⟩) 0 0) [] := by rw [hx_, hg_]; exact OL
    have OL := Lib.hid OL
    rw [← hx_] at hal
    rw [← hx_, ← hg_]
    have hb6 := Lib.hid (L5b.out.trans (hal.mono L5b.out.size))
    have HG5 := Lib.hid (show g5 = w5.heap.size from hg_)
    have hsz6 : w5.heap.size < x6.heap.size := by rw [hx_]; simp
    clear hal hx_ hg_
    refine hK.out _ _ ⟨cell_onV C0.out hb6.out, cell_onV C1.out hb6.out, cell_onV C2.out hb6.out⟩ (fun hHeld => ?_)
    clear hK K
    (try simp only [Act.put]); (try simp only [List.setIfInBounds_toArray]); (try simp only [List.set_cons_succ]); (try simp only [List.set_cons_zero])
    refine wpAnyH_ready (rs := [4]) (by kernel_rfl) (by simp) ?_
    refine AllReadyH.cons rfl (fun K hK => ?_) (AllReadyH.nil)
    have hmk := make_ints n (by omega)
    rw [← HKN.out] at hmk
    rw [if_pos (by rfl)]
    go_simp
    skip
    have hmz := made_zero n hn3
    rw [Nat.mul_one] at hmz
    rw [hmz]
    clear hmk hmz
    have hal := Joins.below_alloc1 x6 (.cells (rowI (List.replicate n 0)) 3)
    have KU := Blk.new x6 (rowI (List.replicate n 0)) 3
    obtain ⟨x7, hx_⟩ : ∃ X, X = x6.alloc (.cells (rowI (List.replicate n 0)) 3) := ⟨_, rfl⟩
    obtain ⟨g4, hg_⟩ : ∃ g, g = x6.heap.size := ⟨_, rfl⟩
    rw [← hx_, ← hg_] at KU
    have KU := Lib.hid KU
    rw [← hx_] at hal
    rw [← hx_, ← hg_]
    have hb7 := Lib.hid (hb6.out.trans (hal.mono hb6.out.size))
    have HG4 := Lib.hid (show g4 = x6.heap.size from hg_)
    have hsz7 : x6.heap.size < x7.heap.size := by rw [hx_]; simp
    have OL := Lib.hid (own_below OL.out hal)
    clear hal hx_ hg_
    refine hK.out _ _ ⟨cell_onV C0.out hb7.out, cell_onV C1.out hb7.out, cell_onV C2.out hb7.out⟩ (fun hHeld => ?_)
    clear hK K
    (try simp only [Act.put]); (try simp only [List.setIfInBounds_toArray]); (try simp only [List.set_cons_succ]); (try simp only [List.set_cons_zero])
    have hne45 : g5 ≠ g4 := by have h1 := HG4.out; have h2 := HG5.out; omega
    have hl5 := hb7.out.size
    have hg4w : w5.heap.size ≤ g4 := by have h1 := HG4.out; omega
    have IH := PK.out 0 (List.replicate n 0) [] _ _ g4 w5.heap.size n x7 (by omega) (by rw [HN.out]; simp) (fun j hj => by
      rw [List.getD, List.getElem?_replicate]
      split <;> simp <;> omega) rfl (SlOf.below RL5.out hb7.out) (fun hne e => by have h1 := own_ltR (fun x => by simp [intCells]) RL5.out hne e; omega) (own_lo OL.out (by omega)) (fun e => hne45 (Option.some.inj e)) hb7.out.size KU.out
    rw [HN.out, show ((0 : Nat) : Int) = 0 from rfl] at IH
    have IH := Lib.hid IH
    refine wpAnyH_ready (rs := [6]) (by kernel_rfl) (by simp) ?_
    refine AllReadyH.cons rfl (fun K hK => ?_) AllReadyH.nil
    rw [if_pos (by rfl)]
    go_simp
    go_at_call 80
    refine IH.out.mono ?_
    rintro e wz ⟨v, rfl, ho, hbz⟩
    have er : resI k l 0 (List.replicate n 0) = packO k l := by unfold resI; rw [E0.out, HN.out, List.drop_zero]
    rw [er] at ho ⊢
    obtain ⟨po, hpo⟩ : ∃ p, packO k l = p := ⟨_, rfl⟩
    rw [hpo] at ho ⊢
    have HB := Lib.hid (hb7.out.trans (hbz.mono hb7.out.size))
    have HO := Lib.hid ho
    have HPO := Lib.hid hpo
    clear ho hbz er IH hpo
    go_simp
    refine hK.out _ _ ⟨cell_onV C0.out HB.out, cell_onV C1.out HB.out, cell_onV C2.out HB.out⟩ (fun hHeld => ?_)
    clear hK K
    (try simp only [Act.put]); (try simp only [List.setIfInBounds_toArray]); (try simp only [List.set_cons_succ]); (try simp only [List.set_cons_zero])
    refine tk 7 ?_
    (try simp only [Act.put]); (try simp only [List.setIfInBounds_toArray]); (try simp only [List.set_cons_succ]); (try simp only [List.set_cons_zero])
    refine tk 8 ?_
    (try simp only [Act.put]); (try simp only [List.setIfInBounds_toArray]); (try simp only [List.set_cons_succ]); (try simp only [List.set_cons_zero])
    refine tk 9 ?_
    (try simp only [Act.put]); (try simp only [List.setIfInBounds_toArray]); (try simp only [List.set_cons_succ]); (try simp only [List.set_cons_zero])
    refine tk 10 ?_
    (try simp only [Act.put]); (try simp only [List.setIfInBounds_toArray]); (try simp only [List.set_cons_succ]); (try simp only [List.set_cons_zero])
    refine wpAnyH_done (by kernel_rfl) ?_ _
    have hz5 := B5.out.size
    go_wp2
    refine bodyPost_ret (v := .tuple #[v, .bool po.isSome]) (by simp [results, Try.results58, go_sem]) rfl ⟨v, by rw [HPO.out], ?_, B5.out.trans (HB.out.mono hz5)⟩
    have z := own_lo (base' := w.heap.size) HO.out hz5
    rw [HPO.out]
    cases po with
    | none => exact z
    | some s => exact z
end Go.Proofs.Ytlddampjbmklkaa
