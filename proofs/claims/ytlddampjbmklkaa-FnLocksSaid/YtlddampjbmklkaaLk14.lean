
/- What LocksLaw rests on, part 14: contracts and mathematics. -/
import Derived.Test.YtlddampjbmklkaaLkTk
import Derived.Test.YtlddampjbmklkaaLk10
import Derived.Test.YtlddampjbmklkaaLk5
import Derived.Test.YtlddampjbmklkaaLk7
import Derived.Test.YtlddampjbmklkaaLk3
import Derived.Deep.RegionHeld3
import Derived.Deep.DeepCutAuto
import Derived.Test.YtlddampjbmklkaaLk4
namespace Go.Proofs.Ytlddampjbmklkaa
open Go.RowKit
set_option maxRecDepth 100000
theorem info_stack : (Try.prog.info? 116).map (fun i => (i.zero, i.size, i.bytes)) = some (some (.agg #[.slice none 0 0]), 1, 24) := by kernel_rfl
theorem made_lanes (n : Nat) : madeCells #[Value.slice none 0 0] (n * 1) = (List.replicate n (Value.slice none 0 0)).toArray := by
  apply Array.ext'
  have h := made_flat #[Value.slice none 0 0] n
  simp at h ⊢
  simpa using h
theorem make_lanes (n : Nat) (hn : n ≤ 1000000000) (W : World) :
    (Instr.makeSlice 112 (.int .i64 (n : Int)) (.int .i64 (n : Int))).run Try.prog W = .ok (.slice (some ⟨W.heap.size, 0, none⟩) n n) (W.alloc (.cells (List.replicate n (Value.slice none 0 0)).toArray 116)) := by
  obtain ⟨i0, hi, hz0, hz1, hz2⟩ := info_parts info_stack
  have hr := run_make (P := Try.prog) W 112 116 i0 _ Try.underlying112 hi hz0 .i64 .i64 n n (by omega) (Int.le_refl _) (by rw [hz2]; omega) (by omega)
  simp only [Int.toNat_natCast, hz1] at hr
  rw [← made_lanes]
  exact hr
theorem sums_zero (n : Nat) : (List.replicate n ([] : List Int)).map sumZ = List.replicate n 0 := by rw [List.map_replicate]; rfl
/-- packBehind over new lanes. -/
theorem backNew (L : Int) (L0 : 0 ≤ L) (n : Nat) (hn : n ≤ 24) (l : List Int) (hl : lensB l = true) (v : Value) (w : World) (h : SlInt w v l) :
    Calls Try.prog 86 #[.slice (some ⟨w.heap.size, 0, none⟩) n n, v, .int .i64 L] (w.alloc (.cells (List.replicate n (Value.slice none 0 0)).toArray 116)) fun e w' => ∃ u, e = .returned (.tuple #[u, .bool (packR L n l (List.replicate n 0)).isSome]) ∧
      OwnInt w' w.heap.size u ((packR L n l (List.replicate n 0)).getD []) ∧ Below w.heap.size w w' := by
  have hz : ∀ k ∈ List.replicate n ([] : List Int), k = [] := fun k hk => (List.mem_replicate.1 hk).2
  have C := backAll L n hn l w (w.alloc (.cells (List.replicate n (Value.slice none 0 0)).toArray 116)) w.heap.size n _ _ v (LanesAt.new w n) (by simp) (lensB_len hl) (fun x hx => by
      obtain ⟨i, hi, e⟩ := List.getElem_of_mem hx
      exact lensB_at hl (show l[i]? = some x by rw [List.getElem?_eq_getElem hi, e]))
    (fun k hk => by rw [hz k hk]; exact ⟨fun x hx => absurd hx (by simp), by have := lensB_len hl; simp; omega, L0⟩)
    (fun i j _ hj _ => by rw [List.getElem?_replicate, if_pos hj]) h
  rw [sums_zero] at C
  refine C.mono ?_
  rintro e w' ⟨u, vs', rfl, hA, hO, -⟩
  exact ⟨u, rfl, hO, hA.low⟩
set_option maxHeartbeats 8000000 in
theorem implPackShips (k : ChamberD) (yl : Value) (l : List Int) (w : World) (rl : SlInt w yl l) :
    Calls Try.prog 74 #[k.val, yl] w fun e w' => ∃ v, e = .returned (.tuple #[v, .bool (packO k l).isSome]) ∧ OwnInt w' w.heap.size v ((packO k l).getD []) ∧ Below w.heap.size w w' := by
  obtain ⟨W0, hW0⟩ : ∃ W0, W0 = (w.alloc (.cells #[.int .i64 k.length, .int .i64 k.lanes, .int .i64 k.minutes] 24)) := ⟨_, rfl⟩
  have B := Lib.hid (Joins.below_alloc1 w (.cells #[.int .i64 k.length, .int .i64 k.lanes, .int .i64 k.minutes] 24))
  have K := Lib.hid (Blk.new w #[.int .i64 k.length, .int .i64 k.lanes, .int .i64 k.minutes] 24)
  have HW0 := Lib.hid hW0
  rw [← hW0] at B K
  clear hW0
  have R := Lib.hid (SlOf.below rl B.out)
  obtain ⟨A1, c1, rfl⟩ := SlOf.form rl
  obtain ⟨b, hb⟩ : ∃ b, (chamB k && lensB l) = b := ⟨_, rfl⟩
  have HB := Lib.hid hb
  clear hb rl
  have c0 : W0.cell? ⟨w.heap.size, 0, none⟩ = some (.int .i64 k.length) := K.out.cell 0
  have c1' : W0.cell? ⟨w.heap.size, 1, none⟩ = some (.int .i64 k.lanes) := K.out.cell 1
  have c2 : W0.cell? ⟨w.heap.size, 2, none⟩ = some (.int .i64 k.minutes) := K.out.cell 2
  go_enter Try.func74, Try.ntmps74
  go_wp2_with fail
  rw [← HW0.out]
  clear c0 c1' c2
  refine (implCanPack k _ l _ R.out).mono ?_
  rw [HB.out]
  rintro e w1 ⟨rfl, hb⟩
  have B1 := Lib.hid (B.out.trans (hb.mono B.out.size))
  have K1 := Lib.hid (K.out.below hb)
  have R1 := Lib.hid (SlOf.below R.out hb)
  clear hb R B K
  cases b with
  | false =>
    have E := Lib.hid (packO_bad (k := k) (l := l) (by rintro ⟨h1, h2⟩; have := HB.out; rw [h1, h2] at this; cases this))
    go_wp2
    refine bodyPost_ret (v := .tuple #[.slice none 0 0, .bool false]) (by simp [results, Try.results74, go_sem]) rfl ⟨.slice none 0 0, by rw [E.out]; rfl, by rw [E.out]; exact World.ownsRow_nil _ _ _ _, B1.out⟩
  | true =>
    obtain ⟨h1, h2⟩ : chamB k = true ∧ lensB l = true := by have := HB.out; simpa using this
    have E0 := packO_ok h1 h2
    obtain ⟨kl0, kl1, ka0, ka1, -, -⟩ := chamB_true h1
    obtain ⟨n, hn⟩ : ∃ n, k.lanes.toNat = n := ⟨_, rfl⟩
    have hkn : k.lanes = (n : Int) := by omega
    have hn3 : n ≤ 3 := by omega
    rw [hn] at E0
    have HKN := Lib.hid hkn
    obtain ⟨po, hpo⟩ : ∃ p, packO k l = p := ⟨_, rfl⟩
    rw [hpo] at E0
    have HPO := Lib.hid hpo
    have R2 := Lib.hid (SlOf.below R1.out (Below.refl _ w1).drew)
    obtain ⟨w2, hw2⟩ : ∃ W, W = w1.drew := ⟨_, rfl⟩
    have hd := (Below.refl w1.heap.size w1).drew
    rw [← hw2] at R2 hd
    have HW2 := Lib.hid hw2
    have B2 := Lib.hid (B1.out.trans (hd.mono B1.out.size))
    have K2 := Lib.hid (K1.out.below hd)
    have C := backNew k.length (by omega) n (by omega) l h2 _ w2 R2.out
    rw [← E0] at C
    have HC := Lib.hid C
    have hmk := make_lanes n (by omega)
    have HMK := Lib.hid hmk
    obtain ⟨m, hm⟩ : ∃ m, l.length = m := ⟨_, rfl⟩
    rw [hm] at HC
    try rw [hm]
    clear hmk C h1 h2 E0 hn hpo hw2 hd hkn hm
    have e0 : w1.cell? ⟨w.heap.size, 0, none⟩ = some (.int .i64 k.length) := K1.out.cell 0
    have C0 := Lib.hid (show w2.cell? ⟨w.heap.size, 0, none⟩ = some (.int .i64 k.length) from K2.out.cell 0)
    have e1 : w1.cell? ⟨w.heap.size, 1, none⟩ = some (.int .i64 k.lanes) := K1.out.cell 1
    have C1 := Lib.hid (show w2.cell? ⟨w.heap.size, 1, none⟩ = some (.int .i64 k.lanes) from K2.out.cell 1)
    have e2 : w1.cell? ⟨w.heap.size, 2, none⟩ = some (.int .i64 k.minutes) := K1.out.cell 2
    have C2 := Lib.hid (show w2.cell? ⟨w.heap.size, 2, none⟩ = some (.int .i64 k.minutes) from K2.out.cell 2)
    go_upto_region 3 with fail
    refine wp_region_held_drew (S := (fun w' => w'.cell? ⟨w.heap.size, 0, none⟩ = some (.int .i64 k.length) ∧ w'.cell? ⟨w.heap.size, 1, none⟩ = some (.int .i64 k.lanes) ∧ w'.cell? ⟨w.heap.size, 2, none⟩ = some (.int .i64 k.minutes))) (by kernel_rfl) ?_ (fun hHeld => ?_)
    · (try dsimp only); go_keep
    rw [← HW2.out] at hHeld ⊢
    clear e0 e1 e2
    refine tk 0 ?_
    (try simp only [Act.put]); (try simp only [List.setIfInBounds_toArray]); (try simp only [List.set_cons_succ]); (try simp only [List.set_cons_zero])
    refine tk 1 ?_
    (try simp only [Act.put]); (try simp only [List.setIfInBounds_toArray]); (try simp only [List.set_cons_succ]); (try simp only [List.set_cons_zero])
    refine tk 3 ?_
    (try simp only [Act.put]); (try simp only [List.setIfInBounds_toArray]); (try simp only [List.set_cons_succ]); (try simp only [List.set_cons_zero])
    refine tk 4 ?_
    (try simp only [Act.put]); (try simp only [List.setIfInBounds_toArray]); (try simp only [List.set_cons_succ]); (try simp only [List.set_cons_zero])
    refine tk 5 ?_
    (try simp only [Act.put]); (try simp only [List.setIfInBounds_toArray]); (try simp only [List.set_cons_succ]); (try simp only [List.set_cons_zero])
    have hmk := HMK.out
    rw [← HKN.out] at hmk
    refine wpAnyH_ready (rs := [2]) (by kernel_rfl) (by simp) ?_
    refine AllReadyH.cons rfl (fun K hK => ?_) AllReadyH.nil
    rw [if_pos (by rfl)]
    go_simp
    clear hmk
    have hal := Joins.below_alloc1 w2 (.cells (List.replicate n (Value.slice none 0 0)).toArray 116)
    refine hK.out _ _ ⟨cell_onV C0.out hal, cell_onV C1.out hal, cell_onV C2.out hal⟩ (fun hHeld => ?_)
    clear hK K hal
    (try simp only [Act.put]); (try simp only [List.setIfInBounds_toArray]); (try simp only [List.set_cons_succ]); (try simp only [List.set_cons_zero])
    refine wpAnyH_ready (rs := [6]) (by kernel_rfl) (by simp) ?_
    refine AllReadyH.cons rfl (fun K hK => ?_) AllReadyH.nil
    rw [if_pos (by rfl)]
    go_simp
    go_at_call 86
    refine HC.out.mono ?_
    rintro e w3 ⟨v, rfl, ho, hb3⟩
    have HO := Lib.hid ho
    have HB3 := Lib.hid hb3
    clear ho hb3
    go_simp
    refine hK.out _ _ ⟨cell_onV C0.out HB3.out, cell_onV C1.out HB3.out, cell_onV C2.out HB3.out⟩ (fun hHeld => ?_)
    clear hK K
    (try simp only [Act.put]); (try simp only [List.setIfInBounds_toArray]); (try simp only [List.set_cons_succ]); (try simp only [List.set_cons_zero])
    refine tk 7 ?_
    (try simp only [Act.put]); (try simp only [List.setIfInBounds_toArray]); (try simp only [List.set_cons_succ]); (try simp only [List.set_cons_zero])
    refine tk 8 ?_
    (try simp only [Act.put]); (try simp only [List.setIfInBounds_toArray]); (try simp only [List.set_cons_succ]); (try simp only [List.set_cons_zero])
    refine tk 9 ?_
    (try simp only [Act.put]); (try simp only [List.setIfInBounds_toArray]); (try simp only [List.set_cons_succ]); (try simp only [List.set_cons_zero])
    refine tk 10 ?_
    (try simp only [Act.put]); (try simp only [List.setIfInBounds_toArray]); (try simp only [List.set_cons_succ]); (try simp only [List.set_cons_zero])
    refine wpAnyH_done (by kernel_rfl) ?_ _
    have hz := B2.out.size
    go_wp2
    refine bodyPost_ret (v := .tuple #[v, .bool po.isSome]) (by simp [results, Try.results74, go_sem]) rfl ⟨v, by rw [HPO.out], ?_, B2.out.trans (HB3.out.mono hz)⟩
    rw [HPO.out]
    exact own_lo (base' := w.heap.size) HO.out hz
end Go.Proofs.Ytlddampjbmklkaa
namespace Go.Proofs.Ytlddampjbmklkaa
open Go.RowKit
set_option maxRecDepth 100000
theorem lockOrd_len (rows : List LockR) (up : Bool) (k : Nat) : ((lockOrd ((rows.map LockR.d).take k) up).length : Int) ≤ bulkLock (rows.take k) := by
  rw [← List.map_take]
  induction rows.take k with
  | nil => simp [lockOrd, bulkLock]
  | cons x l ih =>
    have e : lockOrd ((x :: l).map LockR.d) up = (if x.up = up then x.ships else []) ++ lockOrd (l.map LockR.d) up := rfl
    rw [e, List.length_append]
    have : ((if x.up = up then x.ships else []).length : Int) ≤ x.ships.length := by split <;> simp
    show _ ≤ (x.ships.length : Int) + bulkLock l
    omega
theorem lockOrd_all (rows : List LockR) (up : Bool) : ((lockOrd (rows.map LockR.d) up).length : Int) ≤ bulkLock rows := by
  have h := lockOrd_len rows up rows.length
  rwa [List.take_length, List.take_of_length_le (by simp)] at h
end Go.Proofs.Ytlddampjbmklkaa
