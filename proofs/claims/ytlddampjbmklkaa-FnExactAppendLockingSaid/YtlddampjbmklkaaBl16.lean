
/- What ExactLockPlanOk and ExactAppendLocking rests on, part 16: contracts and mathematics. -/
import Derived.Test.YtlddampjbmklkaaBlTk
import Derived.Test.YtlddampjbmklkaaBl13
import Derived.Test.YtlddampjbmklkaaBl8
import Derived.Deep.DeepCutAuto
namespace Go.Proofs.Ytlddampjbmklkaa
open Go.RowKit
set_option maxRecDepth 100000
theorem info_stack : (Try.prog.info? 116).map (fun i => (i.zero, i.size, i.bytes)) = some (some (.agg #[.slice none 0 0]), 1, 24) := by kernel_rfl
theorem made_lanes (n : Nat) : madeCells #[Value.slice none 0 0] (n * 1) = (List.replicate n (Value.slice none 0 0)).toArray := by
  apply Array.ext'
  have h := made_flat #[Value.slice none 0 0] n
  simp at h ⊢
  simpa using h
theorem make_lanes (n : Nat) (hn : n ≤ 1000000000) (W : World) :
    (Instr.makeSlice 112 (.int .i64 (n : Int)) (.int .i64 (n : Int))).run Try.prog W = .ok (.slice (some ⟨W.heap.size, 0, none⟩) n n) (W.alloc (.cells (List.replicate n (Value.slice none 0 0)).toArray 116)) := by
  obtain ⟨i0, hi, hz0, hz1, hz2⟩ := info_parts info_stack
  have hr := run_make (P := Try.prog) W 112 116 i0 _ Try.underlying112 hi hz0 .i64 .i64 n n (by omega) (Int.le_refl _) (by rw [hz2]; omega) (by omega)
  simp only [Int.toNat_natCast, hz1] at hr
  rw [← made_lanes]
  exact hr
theorem sums_zero (n : Nat) : (List.replicate n ([] : List Int)).map sumZ = List.replicate n 0 := by rw [List.map_replicate]; rfl
/-- packBehind over new lanes. -/
theorem backNew (L : Int) (L0 : 0 ≤ L) (n : Nat) (hn : n ≤ 24) (l : List Int) (hl : lensB l = true) (v : Value) (w : World) (h : SlInt w v l) :
    Calls Try.prog 86 #[.slice (some ⟨w.heap.size, 0, none⟩) n n, v, .int .i64 L] (w.alloc (.cells (List.replicate n (Value.slice none 0 0)).toArray 116)) fun e w' => ∃ u, e = .returned (.tuple #[u, .bool (packR L n l (List.replicate n 0)).isSome]) ∧
      OwnInt w' w.heap.size u ((packR L n l (List.replicate n 0)).getD []) ∧ Below w.heap.size w w' := by
  have hz : ∀ k ∈ List.replicate n ([] : List Int), k = [] := fun k hk => (List.mem_replicate.1 hk).2
  have C := backAll L n hn l w (w.alloc (.cells (List.replicate n (Value.slice none 0 0)).toArray 116)) w.heap.size n _ _ v (LanesAt.new w n) (by simp) (lensB_len hl) (fun x hx => by
      obtain ⟨i, hi, e⟩ := List.getElem_of_mem hx
      exact lensB_at hl (show l[i]? = some x by rw [List.getElem?_eq_getElem hi, e]))
    (fun k hk => by rw [hz k hk]; exact ⟨fun x hx => absurd hx (by simp), by have := lensB_len hl; simp; omega, L0⟩)
    (fun i j _ hj _ => by rw [List.getElem?_replicate, if_pos hj]) h
  rw [sums_zero] at C
  refine C.mono ?_
  rintro e w' ⟨u, vs', rfl, hA, hO, -⟩
  exact ⟨u, rfl, hO, hA.low⟩
set_option maxHeartbeats 8000000 in
theorem implPackShips (k : ChamberD) (yl : Value) (l : List Int) (w : World) (rl : SlInt w yl l) :
    Calls Try.prog 74 #[k.val, yl] w fun e w' => ∃ v, e = .returned (.tuple #[v, .bool (packO k l).isSome]) ∧ OwnInt w' w.heap.size v ((packO k l).getD []) ∧ Below w.heap.size w w' := by
  obtain ⟨W0, hW0⟩ : ∃ W0, W0 = (w.alloc (.cells #[.int .i64 k.length, .int .i64 k.lanes, .int .i64 k.minutes] 24)) := ⟨_, rfl⟩
  have B := Lib.hid (Joins.below_alloc1 w (.cells #[.int .i64 k.length, .int .i64 k.lanes, .int .i64 k.minutes] 24))
  have K := Lib.hid (Blk.new w #[.int .i64 k.length, .int .i64 k.lanes, .int .i64 k.minutes] 24)
  have HW0 := Lib.hid hW0
  rw [← hW0] at B K
  clear hW0
  have R := Lib.hid (SlOf.below rl B.out)
  obtain ⟨A1, c1, rfl⟩ := SlOf.form rl
  obtain ⟨b, hb⟩ : ∃ b, (chamB k && lensB l) = b := ⟨_, rfl⟩
  have HB := Lib.hid hb
  clear hb rl
  have c0 : W0.cell? ⟨w.heap.size, 0, none⟩ = some (.int .i64 k.length) := K.out.cell 0
  have c1' : W0.cell? ⟨w.heap.size, 1, none⟩ = some (.int .i64 k.lanes) := K.out.cell 1
  have c2 : W0.cell? ⟨w.heap.size, 2, none⟩ = some (.int .i64 k.minutes) := K.out.cell 2
  go_enter Try.func74, Try.ntmps74
  go_wp2_with fail
  rw [← HW0.out]
  clear c0 c1' c2
  refine (implCanPack k _ l _ R.out).mono ?_
  rw [HB.out]
  rintro e w1 ⟨rfl, hb⟩
  have B1 := Lib.hid (B.out.trans (hb.mono B.out.size))
  have K1 := Lib.hid (K.out.below hb)
  have R1 := Lib.hid (SlOf.below R.out hb)
  clear hb R B K
  cases b with
  | false =>
    have E := Lib.hid (packO_bad (k := k) (l := l) (by rintro ⟨h1, h2⟩; have := HB.out; rw [h1, h2] at this; cases this))
    go_wp2
    refine bodyPost_ret (v := .tuple #[.slice none 0 0, .bool false]) (by simp [results, Try.results74, go_sem]) rfl ⟨.slice none 0 0, by rw [E.out]; rfl, by rw [E.out]; exact World.ownsRow_nil _ _ _ _, B1.out⟩
  | true =>
    obtain ⟨h1, h2⟩ : chamB k = true ∧ lensB l = true := by have := HB.out; simpa using this
    have E0 := packO_ok h1 h2
    obtain ⟨kl0, kl1, ka0, ka1, -, -⟩ := chamB_true h1
    obtain ⟨n, hn⟩ : ∃ n, k.lanes.toNat = n := ⟨_, rfl⟩
    have hkn : k.lanes = (n : Int) := by omega
    have hn3 : n ≤ 3 := by omega
    rw [hn] at E0
    have HKN := Lib.hid hkn
    obtain ⟨po, hpo⟩ : ∃ p, packO k l = p := ⟨_, rfl⟩
    rw [hpo] at E0
    have HPO := Lib.hid hpo
    have R2 := Lib.hid (SlOf.below R1.out (Below.refl _ w1).drew)
    obtain ⟨w2, hw2⟩ : ∃ W, W = w1.drew := ⟨_, rfl⟩
    have hd := (Below.refl w1.heap.size w1).drew
    rw [← hw2] at R2 hd
    have HW2 := Lib.hid hw2
    have B2 := Lib.hid (B1.out.trans (hd.mono B1.out.size))
    have K2 := Lib.hid (K1.out.below hd)
    have C := backNew k.length (by omega) n (by omega) l h2 _ w2 R2.out
    rw [← E0] at C
    have HC := Lib.hid C
    have hmk := make_lanes n (by omega)
    have HMK := Lib.hid hmk
    obtain ⟨m, hm⟩ : ∃ m, l.length = m := ⟨_, rfl⟩
    rw [hm] at HC
    try rw [hm]
    clear hmk C h1 h2 E0 hn hpo hw2 hd hkn hm
    have e0 : w1.cell? ⟨w.heap.size, 0, none⟩ = some (.int .i64 k.length) := K1.out.cell 0
    have C0 := Lib.hid (show w2.cell? ⟨w.heap.size, 0, none⟩ = some (.int .i64 k.length) from K2.out.cell 0)
    have e1 : w1.cell? ⟨w.heap.size, 1, none⟩ = some (.int .i64 k.lanes) := K1.out.cell 1
    have C1 := Lib.hid (show w2.cell? ⟨w.heap.size, 1, none⟩ = some (.int .i64 k.lanes) from K2.out.cell 1)
    have e2 : w1.cell? ⟨w.heap.size, 2, none⟩ = some (.int .i64 k.minutes) := K1.out.cell 2
    have C2 := Lib.hid (show w2.cell? ⟨w.heap.size, 2, none⟩ = some (.int .i64 k.minutes) from K2.out.cell 2)
    go_upto_region 3 with fail
    refine wp_region_held_drew (S := (fun w' => w'.cell? ⟨w.heap.size, 0, none⟩ = some (.int .i64 k.length) ∧ w'.cell? ⟨w.heap.size, 1, none⟩ = some (.int .i64 k.lanes) ∧ w'.cell? ⟨w.heap.size, 2, none⟩ = some (.int .i64 k.minutes))) (by kernel_rfl) ?_ (fun hHeld => ?_)
    · (try dsimp only); go_keep
    rw [← HW2.out] at hHeld ⊢
    clear e0 e1 e2
    refine tk 0 ?_
    (try simp only [Act.put]); (try simp only [List.setIfInBounds_toArray]); (try simp only [List.set_cons_succ]); (try simp only [List.set_cons_zero])
    refine tk 1 ?_
    (try simp only [Act.put]); (try simp only [List.setIfInBounds_toArray]); (try simp only [List.set_cons_succ]); (try simp only [List.set_cons_zero])
    refine tk 3 ?_
    (try simp only [Act.put]); (try simp only [List.setIfInBounds_toArray]); (try simp only [List.set_cons_succ]); (try simp only [List.set_cons_zero])
    refine tk 4 ?_
    (try simp only [Act.put]); (try simp only [List.setIfInBounds_toArray]); (try simp only [List.set_cons_succ]); (try simp only [List.set_cons_zero])
    refine tk 5 ?_
    (try simp only [Act.put]); (try simp only [List.setIfInBounds_toArray]); (try simp only [List.set_cons_succ]); (try simp only [List.set_cons_zero])
    have hmk := HMK.out
    rw [← HKN.out] at hmk
    refine wpAnyH_ready (rs := [2]) (by kernel_rfl) (by simp) ?_
    refine AllReadyH.cons rfl (fun K hK => ?_) AllReadyH.nil
    rw [if_pos (by rfl)]
    go_simp
    clear hmk
    have hal := Joins.below_alloc1 w2 (.cells (List.replicate n (Value.slice none 0 0)).toArray 116)
    refine hK.out _ _ ⟨cell_onV C0.out hal, cell_onV C1.out hal, cell_onV C2.out hal⟩ (fun hHeld => ?_)
    clear hK K hal
    (try simp only [Act.put]); (try simp only [List.setIfInBounds_toArray]); (try simp only [List.set_cons_succ]); (try simp only [List.set_cons_zero])
    refine wpAnyH_ready (rs := [6]) (by kernel_rfl) (by simp) ?_
    refine AllReadyH.cons rfl (fun K hK => ?_) AllReadyH.nil
    rw [if_pos (by rfl)]
    go_simp
    go_at_call 86
    refine HC.out.mono ?_
    rintro e w3 ⟨v, rfl, ho, hb3⟩
    have HO := Lib.hid ho
    have HB3 := Lib.hid hb3
    clear ho hb3
    go_simp
    refine hK.out _ _ ⟨cell_onV C0.out HB3.out, cell_onV C1.out HB3.out, cell_onV C2.out HB3.out⟩ (fun hHeld => ?_)
    clear hK K
    (try simp only [Act.put]); (try simp only [List.setIfInBounds_toArray]); (try simp only [List.set_cons_succ]); (try simp only [List.set_cons_zero])
    refine tk 7 ?_
    (try simp only [Act.put]); (try simp only [List.setIfInBounds_toArray]); (try simp only [List.set_cons_succ]); (try simp only [List.set_cons_zero])
    refine tk 8 ?_
    (try simp only [Act.put]); (try simp only [List.setIfInBounds_toArray]); (try simp only [List.set_cons_succ]); (try simp only [List.set_cons_zero])
    refine tk 9 ?_
    (try simp only [Act.put]); (try simp only [List.setIfInBounds_toArray]); (try simp only [List.set_cons_succ]); (try simp only [List.set_cons_zero])
    refine tk 10 ?_
    (try simp only [Act.put]); (try simp only [List.setIfInBounds_toArray]); (try simp only [List.set_cons_succ]); (try simp only [List.set_cons_zero])
    refine wpAnyH_done (by kernel_rfl) ?_ _
    have hz := B2.out.size
    go_wp2
    refine bodyPost_ret (v := .tuple #[v, .bool po.isSome]) (by simp [results, Try.results74, go_sem]) rfl ⟨v, by rw [HPO.out], ?_, B2.out.trans (HB3.out.mono hz)⟩
    rw [HPO.out]
    exact own_lo (base' := w.heap.size) HO.out hz
end Go.Proofs.Ytlddampjbmklkaa
namespace Go.Proofs.Ytlddampjbmklkaa
open Go.RowKit
set_option maxRecDepth 100000
/-- The lockings are marked, one behind the other. -/
def LockMarked (w : World) (v : Value) (rows : List LockR) (k : Int) : Prop :=
  rows = [] ∨ ∃ g o c, v = .slice (some ⟨g, o, none⟩) rows.length c ∧ ∀ (i : Nat) r, rows[i]? = some r → w.cell? ⟨g, o + i * 3, none⟩ = some (.int .i64 (kAt rows k i)) ∧ w.cell? ⟨g, o + i * 3 + 1, none⟩ = some (.bool ((kAt rows k i + 1) % 3 == 0)) ∧ w.cell? ⟨g, o + i * 3 + 2, none⟩ = some r.v ∧ MarkedV w r.v r.ships.length (mvInt (kAt rows k i + 2))
theorem LockMarked.below {w w' : World} {v : Value} {rows : List LockR} {k : Int} (h : LockMarked w v rows k) (hb : Below w.heap.size w w') : LockMarked w' v rows k := by
  rcases h with h | ⟨g, o, c, h1, h2⟩
  · exact .inl h
  · refine .inr ⟨g, o, c, h1, fun i r hr => ?_⟩
    obtain ⟨m1, m2, m3, m4⟩ := h2 i r hr
    exact ⟨cell_onV m1 hb, cell_onV m2 hb, cell_onV m3 hb, m4.below hb⟩
theorem kAt_next {rows : List LockR} {k : Int} {j : Nat} {x : LockR} (h : rows[j]? = some x) : kAt rows k (j + 1) = kAt rows k j + 2 + x.ships.length := by
  unfold kAt
  rw [bulkLock_next h]
  omega
theorem kAt_bound {rows : List LockR} {k : Int} {j : Nat} (hj : j ≤ rows.length) : k ≤ kAt rows k j ∧ kAt rows k j ≤ k + 2 * rows.length + bulkLock rows := by
  unfold kAt
  have := bulkLock_pos (rows.take j)
  have := bulkLock_le rows j
  omega
set_option maxHeartbeats 4000000 in
theorem markLockingS_any (v : Value) (rows : List LockR) (k : Int) (a b : Nat) (w : World) (h : RdLocks w v rows) (hf : FreeV w v) (hfi : ∀ r ∈ rows, FreeV w r.v) (hr : RangeV v a b) (hrs : ∀ r ∈ rows, RangeV r.v a b) (hp : rows.Pairwise (fun a b => ApartV a.v b.v)) (hv : ∀ r ∈ rows, ApartV v r.v)
    (h0 : 0 ≤ k) (h1 : k ≤ 10000000) (h2 : (rows.length : Int) + bulkLock rows ≤ 10000000) :
    Calls Try.prog 29 #[v, .int .i64 k] w fun e w' => e = .returned (.int .i64 (k + 2 * (rows.length : Int) + bulkLock rows)) ∧ LockMarked w' v rows k ∧ TouchR w w' a b := by
  obtain ⟨hs, hin⟩ := h
  obtain ⟨hl, hs⟩ := hs
  have hbp := bulkLock_pos rows
  rcases hs with ⟨e, A, c, rfl⟩ | ⟨g, o, c, rfl, hpos, _, hc⟩
  · have E3 := Lib.hid (show k + 2 * (rows.length : Int) + bulkLock rows = k by rw [e]; simp [bulkLock])
    have E4 := Lib.hid e
    clear e hf hfi hr hrs hp hv hin h2 hbp hl
    go_enter Try.func29, Try.ntmps29
    go_wp2
    refine wp_loop_rounds 1 ?_
    rw [rounds_succ]
    go_wp2
    go_ret
    exact ⟨ret_int E3.out.symm, .inl E4.out, touch_refl _ _ _⟩
  · have hgl : g < w.heap.size := by
      obtain ⟨x, hx⟩ : ∃ x, rows[0]? = some x := ⟨_, List.getElem?_eq_getElem hpos⟩
      exact World.block_lt_of_cell? w _ (LockR.at hc 0 x hx).1
    have hgr := hr g rfl
    have hap : ∀ r ∈ rows, r.v.ownBlock ≠ some g := fun r hr e => hv r hr g rfl e
    have ST := Lib.hid (show LkM w w rows k g o a b 0 from ⟨fun i r hi => absurd hi (by omega), fun i r _ hr => by
      obtain ⟨q0, q1, q2⟩ := LockR.at hc i r hr
      exact ⟨⟨_, q0⟩, ⟨_, q1⟩, hin r (List.mem_of_getElem? hr), hfi r (List.mem_of_getElem? hr)⟩, fun i r hr => (LockR.at hc i r hr).2.2, (hf g rfl).1, touch_refl _ _ _⟩)
    have HRS := Lib.hid hrs
    have HP := Lib.hid hp
    have HAP := Lib.hid hap
    have HGR := Lib.hid hgr
    clear hc hf hfi hr hrs hp hv hin hap hgr
    go_enter Try.func29, Try.ntmps29
    go_wp2
    go_loopw [1, 5] (fun q i wr => ∃ j : Nat, j ≤ rows.length ∧ i = .int .i64 j ∧ q = .int .i64 (kAt rows k j) ∧ Hid (LkM w wr rows k g o a b j)) (fun _ i _ => rows.length - (intOf i).toNat)
    case atStart => exact ⟨0, Nat.zero_le _, rfl, by simp [kAt, bulkLock], ST⟩
    case round =>
      obtain ⟨j, hj, rfl, rfl, hM⟩ := hrel
      by_cases hlt : j < rows.length
      · obtain ⟨x, hx⟩ : ∃ x, rows[j]? = some x := ⟨_, List.getElem?_eq_getElem hlt⟩
        obtain ⟨⟨u0, c0⟩, ⟨u1, d1⟩, -, -⟩ := hM.out.rd j x (Nat.le_refl _) hx
        have f0 : wr.frozen? ⟨g, o + j * 3, none⟩ = false := hM.out.free _
        obtain ⟨w2, hw2⟩ : ∃ W, W = (wr.setCell ⟨g, o + j * 3, none⟩ (.int .i64 (kAt rows k j))).setCell ⟨g, o + j * 3 + 1, none⟩ (.bool ((kAt rows k j + 1) % 3 == 0)) := ⟨_, rfl⟩
        obtain ⟨e0, e1, hM2⟩ := hM.out.head hx HGR.out HAP.out hw2
        have hkb := kAt_bound (k := k) (rows := rows) (j := j) hj
        have hkn := kAt_next (k := k) hx
        have hkb2 := kAt_bound (k := k) (rows := rows) (j := j + 1) hlt
        have c1 : (wr.setCell ⟨g, o + j * 3, none⟩ (.int .i64 (kAt rows k j))).cell? ⟨g, o + j * 3 + 1, none⟩ = some u1 := by
          rw [World.cell?_setCell_other _ _ _ _ (by intro he; injection he with _ e2; omega)]; exact d1
        have f1 : (wr.setCell ⟨g, o + j * 3, none⟩ (.int .i64 (kAt rows k j))).frozen? ⟨g, o + j * 3 + 1, none⟩ = false := setCell_frozen _ _ _ _ (hM.out.free _)
        have c2 : w2.cell? ⟨g, o + j * 3 + 2, none⟩ = some x.v := hM2.third j x hx
        obtain ⟨-, -, hsl, hfr⟩ := hM2.rd j x (Nat.le_refl _) hx
        obtain ⟨Ax, cx, hxv⟩ := hsl.at
        rw [hxv] at c2
        have HSL := Lib.hid hsl
        have HFR := Lib.hid hfr
        have HXV := Lib.hid hxv
        have HM2 := Lib.hid hM2
        have HX := Lib.hid hx
        have E0 := Lib.hid e0
        have E1 := Lib.hid e1
        have hgl2 : g < w2.heap.size := by have := World.block_lt_of_cell? w2 _ e0; exact this
        have hmem := bulkLock_mem (List.mem_of_getElem? hx)
        obtain ⟨z, hz⟩ : ∃ z, kAt rows k j = z := ⟨_, rfl⟩
        have HZ := Lib.hid hz
        rw [hz] at hkb hkn c1 f1 hw2 ⊢
        have HW2 := Lib.hid hw2
        obtain ⟨y, hy⟩ : ∃ y, x.ships.length = y := ⟨_, rfl⟩
        have HYL := Lib.hid hy
        rw [hy] at c2 hkn hmem
        have C := markIntS_any x.v x.ships (z + 1 + 1) w2 hsl (fun g hg => (hfr g hg).1) (by omega) (by omega) (by omega)
        rw [hy, hxv, hy] at C
        have HC := Lib.hid C
        have HKN := Lib.hid hkn
        clear hx d1 e0 e1 hM2 hsl hfr hxv hw2 hz hy C hkn
        go_upto_region 8 with fail
        rw [← HW2.out]
        clear c1 f1 c0 f0
        go_wp2_with fail
        refine HC.out.mono ?_
        rintro e w3 ⟨rfl, hm, hg3⟩
        have M3 := Lib.hid (show LkM w w3 rows k g o a b (j + 1) from HM2.out.tail HX.out E0.out E1.out (by rw [HZ.out, show z + 2 = z + 1 + 1 by omega, HXV.out, HYL.out]; exact hm) (by rw [HXV.out, HYL.out]; exact hg3) HAP.out hgl2 (HRS.out x (List.mem_of_getElem? HX.out)) HP.out)
        clear hm hg3 c2
        go_wp2
        go_roundw
        case rel => exact ⟨j + 1, by omega, by go_num, by rw [HKN.out]; congr 1; omega, M3⟩
        case measure => simp [intOf]; omega
      · obtain rfl : j = rows.length := by omega
        have E := Lib.hid (show kAt rows k rows.length = k + 2 * (rows.length : Int) + bulkLock rows by unfold kAt; rw [List.take_length])
        go_wp2
        go_ret
        exact ⟨ret_int E.out, .inr ⟨g, o, c, rfl, fun i r hr => by
          obtain ⟨m1, m2, m3⟩ := hM.out.mrk i r (List.getElem?_eq_some_iff.1 hr).1 hr
          exact ⟨m1, m2, hM.out.third i r hr, m3⟩⟩, hM.out.touch⟩
end Go.Proofs.Ytlddampjbmklkaa
