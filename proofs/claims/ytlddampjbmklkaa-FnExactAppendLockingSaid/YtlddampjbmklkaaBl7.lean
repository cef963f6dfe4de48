
/- What ExactLockPlanOk and ExactAppendLocking rests on, part 7: contracts and mathematics. -/
import Derived.Test.YtlddampjbmklkaaBl2
import Derived.Test.YtlddampjbmklkaaBl5
import Derived.Test.YtlddampjbmklkaaBl1
import Derived.Test.YtlddampjbmklkaaBl3
import Derived.Test.YtlddampjbmklkaaBl6
import Derived.Test.YtlddampjbmklkaaBl0
import Derived.StillTailTactics
import Derived.Deep.RegionHeld3
import Derived.Deep.DeepCutAuto
namespace Go.Proofs.Ytlddampjbmklkaa
open Go.RowKit
set_option maxRecDepth 100000
structure LockD where
  start : Int
  up : Bool
  ships : List Int
/-- A locking in memory: the value that holds its ships, and what it reads as. -/
structure LockR where
  start : Int
  up : Bool
  v : Value
  ships : List Int
@[reducible] def LockR.cells (r : LockR) : List Value := [.int .i64 r.start, .bool r.up, r.v]
def LockR.d (r : LockR) : LockD := ⟨r.start, r.up, r.ships⟩
theorem lockRLen (r : LockR) : r.cells.length = 3 := rfl
/-- Lockings, read. -/
def RdLocks (w : World) (v : Value) (rows : List LockR) : Prop := SlOf 3 LockR.cells w v rows ∧ ∀ r ∈ rows, SlInt w r.v r.ships
theorem RdLocks.below {w w' : World} {v : Value} {rows : List LockR} (h : RdLocks w v rows) (hb : Below w.heap.size w w') : RdLocks w' v rows := ⟨h.1.below hb, fun r hr => (h.2 r hr).below hb⟩
theorem LockR.at {w : World} {l : List LockR} {g o : Nat} (hc : ∀ i x, l[i]? = some x → ∀ j u, (LockR.cells x)[j]? = some u → w.cell? ⟨g, o + i * 3 + j, none⟩ = some u) (i : Nat) (x : LockR) (hx : l[i]? = some x) :
    w.cell? ⟨g, o + i * 3, none⟩ = some (.int .i64 x.start) ∧ w.cell? ⟨g, o + i * 3 + 1, none⟩ = some (.bool x.up) ∧ w.cell? ⟨g, o + i * 3 + 2, none⟩ = some x.v := ⟨hc i x hx 0 _ rfl, hc i x hx 1 _ rfl, hc i x hx 2 _ rfl⟩
/-- Lockings of one's own: the row and every list of ships in a block of its own. -/
def OwnLocks (w : World) (base : Nat) (v : Value) (rows : List LockR) : Prop :=
  OwnOf 3 LockR.cells 38 w base v rows ∧ (∀ r ∈ rows, OwnInt w base r.v r.ships) ∧ rows.Pairwise (fun a b => ApartV a.v b.v) ∧ ∀ r ∈ rows, ApartV v r.v
theorem half_congr {α : Type} {cs : α → List Value} {zc : List Value} {l l' : List α} {k : Nat} (h : l.take k = l'.take k) (hl : l.length = l'.length) : halfOf cs zc l k = halfOf cs zc l' k := by
  unfold halfOf
  rw [h, hl]
def zeroLock : List Value := [.int .i64 0, .bool false, .slice none 0 0]
theorem info_locking : (Try.prog.info? 38).map (fun i => (i.zero, i.size, i.bytes)) = some (some (.agg #[.int .i64 0, .bool false, .slice none 0 0]), 3, 40) := by kernel_rfl
theorem make_lockings (n : Nat) (hn : n ≤ 1000000000) (W : World) :
    (Instr.makeSlice 26 (.int .i64 (n : Int)) (.int .i64 (n : Int))).run Try.prog W = .ok (.slice (some ⟨W.heap.size, 0, none⟩) n n) (W.alloc (.cells (madeCells #[.int .i64 0, .bool false, .slice none 0 0] (n * 3)) 38)) := by
  obtain ⟨i0, hi, hz0, hz1, hz2⟩ := info_parts info_locking
  have hr := run_make (P := Try.prog) W 26 38 i0 _ Try.underlying26 hi hz0 .i64 .i64 n n (by omega) (Int.le_refl _) (by rw [hz2]; omega) (by omega)
  simp only [Int.toNat_natCast, hz1] at hr
  exact hr
set_option maxHeartbeats 2000000 in
theorem toLocking_any (s : Int) (u : Bool) (v : Value) (l : List Int) (w : World) (h : SlInt w v l) :
    Calls Try.prog 60 #[.agg #[.int .i64 s, .bool u, v]] w fun e w' => ∃ v', e = .returned (.agg #[.int .i64 s, .bool u, v']) ∧ OwnInt w' w.heap.size v' l ∧ Below w.heap.size w w' := by
  have H := Lib.hid h
  obtain ⟨A, c, rfl⟩ := h.at
  clear h
  have hb0 := Joins.below_alloc1 w (.cells #[.int .i64 s, .bool u, .slice A l.length c] 83)
  have hb1 := Joins.below_alloc1 (w.alloc (.cells #[.int .i64 s, .bool u, .slice A l.length c] 83)) (.cells #[.int .i64 0, .bool false, .slice none 0 0] 38)
  have K1 := Blk.new (w.alloc (.cells #[.int .i64 s, .bool u, .slice A l.length c] 83)) #[.int .i64 0, .bool false, .slice none 0 0] 38
  obtain ⟨W1, hW1⟩ : ∃ W, W = w.alloc (.cells #[.int .i64 s, .bool u, .slice A l.length c] 83) := ⟨_, rfl⟩
  have z1 : W1.heap.size = w.heap.size + 1 := by rw [hW1]; simp
  rw [← hW1] at hb0 hb1 K1
  obtain ⟨W2, hW2⟩ : ∃ W, W = W1.alloc (.cells #[.int .i64 0, .bool false, .slice none 0 0] 38) := ⟨_, rfl⟩
  have z2 : W2.heap.size = w.heap.size + 1 + 1 := by rw [hW2]; simp; omega
  rw [← hW2] at hb1 K1
  have hb2 := Joins.below_alloc1 W2 (.cells #[.int .i64 s, .bool u, .slice none 0 0] 38)
  have K2 := Blk.new W2 #[.int .i64 s, .bool u, .slice none 0 0] 38
  obtain ⟨W3, hW3⟩ : ∃ W, W = W2.alloc (.cells #[.int .i64 s, .bool u, .slice none 0 0] 38) := ⟨_, rfl⟩
  have z3 : W3.heap.size = w.heap.size + 1 + 1 + 1 := by rw [hW3]; simp; omega
  rw [← hW3] at hb2 K2
  have B3 := Lib.hid ((hb0.trans (hb1.mono hb0.size)).trans (hb2.mono (by omega)))
  rw [z1] at K1
  rw [z2] at K2
  have HK1 := Lib.hid (K1.below hb2)
  have HK2 := Lib.hid K2
  have HW3 := Lib.hid (show W3 = ((w.alloc (.cells #[.int .i64 s, .bool u, .slice A l.length c] 83)).alloc (.cells #[.int .i64 0, .bool false, .slice none 0 0] 38)).alloc (.cells #[.int .i64 s, .bool u, .slice none 0 0] 38) by rw [hW3, hW2, hW1])
  have H3 := Lib.hid (H.out.below B3.out)
  have HZ3 := Lib.hid z3
  clear hb0 hb1 hb2 K1 K2 hW1 hW2 hW3 z1 z2 z3
  go_enter Try.func60, Try.ntmps60
  go_wp2_with fail
  rw [← HW3.out]
  refine (toIntS_any _ l W3 H3.out).mono ?_
  rintro e w4 ⟨v', rfl, ho, hb4⟩
  obtain ⟨A', c', rfl⟩ := own_form ho
  have HO := Lib.hid ho
  have B4 := Lib.hid (B3.out.trans (hb4.mono B3.out.size))
  have K1 := HK1.out.below hb4
  have K2 := HK2.out.below hb4
  have hne : (⟨w.heap.size + 1, 0, none⟩ : Addr).block ≠ w.heap.size + 1 + 1 := by simp
  have a0 := K1.cell 0
  have a1 := K1.cell 1
  have a2 := K1.cell 2
  have d0 := K2.cell 0
  have d1 := K2.cell 1
  have d2 := K2.cell 2
  simp at a0 a1 a2 d0 d1 d2
  have fa0 : w4.frozen? ⟨w.heap.size + 1, 0, none⟩ = false := K1.free 0
  have fa1 : w4.frozen? ⟨w.heap.size + 1, 1, none⟩ = false := K1.free 1
  have fa2 : w4.frozen? ⟨w.heap.size + 1, 2, none⟩ = false := K1.free 2
  have fd2 : w4.frozen? ⟨w.heap.size + 1 + 1, 2, none⟩ = false := K2.free 2
  have hz3 : w.heap.size ≤ w.heap.size + 1 + 1 := by omega
  clear ho hb4 K1 K2 HW3
  go_wp2
  refine bodyPost_ret (v := .agg #[.int .i64 s, .bool u, .slice A' l.length c']) (by simp [results, Try.results60, go_sem, *]) rfl ⟨_, rfl, ?_, ?_⟩
  · have far : ∀ b, (Value.slice A' l.length c').ownBlock = some b → w.heap.size + 1 + 1 < b := fun b hv => by have := (own_ge HO.out hv).1; have := HZ3.out; omega
    refine own_kept (own_kept (own_kept (own_kept (own_lo (base' := w.heap.size) HO.out (by have := HZ3.out; omega)) (grown_set1 _ _ _ _) ?_) (grown_set1 _ _ _ _) ?_) (grown_set1 _ _ _ _) ?_) (grown_set1 _ _ _ _) ?_ <;>
      (intro b hv e; have := far b hv; have := Option.some.inj e; omega)
  · exact (((B4.out.setCell (p := ⟨w.heap.size + 1 + 1, 2, none⟩) hz3 _).setCell (p := ⟨w.heap.size + 1, 0, none⟩) (Nat.le_succ _) _).setCell (p := ⟨w.heap.size + 1, 1, none⟩) (Nat.le_succ _) _).setCell (p := ⟨w.heap.size + 1, 2, none⟩) (Nat.le_succ _) _
theorem own_lt_of {w : World} {base n size : Nat} {e : TypeId} {g l c : Nat} {xs : List Value} (h : w.ownsRow base e size (.slice (some ⟨g, 0, none⟩) l c) n xs) : g < w.heap.size := (World.ownsRow.lt h g rfl).2
/-- What toLockingS leaves: a list of one's own that reads as the rows do. -/
def NewLocks (rows : List LockR) (w : World) (e : Ending) (w' : World) : Prop := ∃ v rs, e = .returned v ∧ OwnLocks w' w.heap.size v rs ∧ rs.map LockR.d = rows.map LockR.d ∧ Below w.heap.size w w'
/-- The first k of them, in a row that is still half empty. -/
structure LocksTo (w wr : World) (rows : List LockR) (k : Nat) (rs : List LockR) : Prop where
  len : rs.length = k
  same : rs.map LockR.d = (rows.take k).map LockR.d
  row : wr.ownsRow w.heap.size 38 3 (.slice (some ⟨w.heap.size, 0, none⟩) rows.length rows.length) rows.length (halfOf LockR.cells zeroLock (rs ++ rows.drop k) k)
  own : ∀ r ∈ rs, OwnInt wr (w.heap.size + 1) r.v r.ships
  ap : rs.Pairwise (fun a b => ApartV a.v b.v)
  low : Below w.heap.size w wr
theorem LocksTo.next {w wr w1 : World} {rows : List LockR} {k : Nat} {rs : List LockR} {x : LockR} {v' : Value} (h : LocksTo w wr rows k rs) (hx : rows[k]? = some x) (hb1 : Below wr.heap.size wr w1) (ho : OwnInt w1 wr.heap.size v' x.ships) (hw : w.heap.size < wr.heap.size) :
    LocksTo w (((w1.setCell ⟨w.heap.size, k * 3, none⟩ (.int .i64 x.start)).setCell ⟨w.heap.size, k * 3 + 1, none⟩ (.bool x.up)).setCell ⟨w.heap.size, k * 3 + 2, none⟩ v') rows (k + 1) (rs ++ [⟨x.start, x.up, v', x.ships⟩]) := by
  have hk := (List.getElem?_eq_some_iff.1 hx).1
  have hrl := h.len
  have far : ∀ {u : Value} {l : List Int} {W : World}, OwnInt W (w.heap.size + 1) u l → ∀ j (y : Value), OwnInt (W.setCell ⟨w.heap.size, j, none⟩ y) (w.heap.size + 1) u l := fun hu j y => own_kept hu (grown_set1 _ _ _ _) (fun b hv e => by have := (own_ge hu hv).1; have := Option.some.inj e; omega)
  refine ⟨by simp [hrl], ?_, ?_, fun r hr => ?_, ?_, ?_⟩
  · rw [List.map_append, h.same, take_snoc' rows k x hx, List.map_append]; rfl
  · have own1 := ownsRow_below h.row hb1
    have hst := (World.ownsRow.stored (World.ownsRow.stored (World.ownsRow.stored own1 (k * 3) (.int .i64 x.start)).1 (k * 3 + 1) (.bool x.up)).1 (k * 3 + 2) v').1
    have e0 : halfOf LockR.cells zeroLock (rs ++ rows.drop k) k = halfOf LockR.cells zeroLock (rs ++ [⟨x.start, x.up, v', x.ships⟩] ++ rows.drop (k + 1)) k := half_congr (by
      rw [List.append_assoc, List.take_left' hrl, List.take_left' hrl]) (by simp; omega)
    have e := half_set lockRLen (zc := zeroLock) rfl (rs ++ [⟨x.start, x.up, v', x.ships⟩] ++ rows.drop (k + 1)) k ⟨x.start, x.up, v', x.ships⟩ (by
      rw [List.append_assoc, List.getElem?_append_right (by omega), hrl, Nat.sub_self]; rfl)
    rw [e0] at hst
    exact (show ((((halfOf LockR.cells zeroLock (rs ++ [⟨x.start, x.up, v', x.ships⟩] ++ rows.drop (k + 1)) k).set (k * 3) (.int .i64 x.start)).set (k * 3 + 1) (.bool x.up)).set (k * 3 + 2) v') = _ from e) ▸ hst
  · rcases List.mem_append.1 hr with hr | hr
    · exact far (far (far (own_below (h.own r hr) hb1) _ _) _ _) _ _
    · simp at hr
      subst hr
      exact far (far (far (own_lo (base' := w.heap.size + 1) ho (by omega)) _ _) _ _) _ _
  · rw [List.pairwise_append]
    refine ⟨h.ap, by simp, fun a ha b hb g hg hg' => ?_⟩
    simp at hb
    subst hb
    have := (own_ge (h.own a ha) hg).2
    have := (own_ge ho hg').1
    omega
  · exact (((h.low.trans (hb1.mono h.low.size)).setCell (p := ⟨w.heap.size, k * 3, none⟩) (Nat.le_refl _) _).setCell (p := ⟨w.heap.size, k * 3 + 1, none⟩) (Nat.le_refl _) _).setCell (p := ⟨w.heap.size, k * 3 + 2, none⟩) (Nat.le_refl _) _
theorem LocksTo.all {w wr : World} {rows : List LockR} {rs : List LockR} (h : LocksTo w wr rows rows.length rs) : OwnLocks wr w.heap.size (.slice (some ⟨w.heap.size, 0, none⟩) rows.length rows.length) rs ∧ rs.map LockR.d = rows.map LockR.d := by
  have hl := h.len
  refine ⟨⟨?_, fun r hr => own_lo (h.own r hr) (Nat.le_succ _), h.ap, fun r hr g hg hg' => ?_⟩, by have := h.same; rwa [List.take_length] at this⟩
  · have hr := h.row
    rw [List.drop_length, List.append_nil] at hr
    rw [show halfOf LockR.cells zeroLock rs rows.length = rs.flatMap LockR.cells by rw [← hl]; exact half_full zeroLock rs] at hr
    unfold OwnOf
    rw [hl]
    exact hr
  · simp [Value.ownBlock] at hg
    have := (own_ge (h.own r hr) hg').1
    omega
set_option maxHeartbeats 4000000 in
theorem toLockingS_any (v : Value) (rows : List LockR) (w : World) (h : RdLocks w v rows) :
    Calls Try.prog 23 #[v] w (NewLocks rows w) := by
  obtain ⟨h, hin⟩ := h
  obtain ⟨hl, h⟩ := h
  have hmk := make_lockings rows.length hl
  rcases h with ⟨rfl, A, c, rfl⟩ | ⟨g, o, c, rfl, hp, hcap, hc⟩
  · have hmk0 : ∀ W : World, (Instr.makeSlice 26 (.int .i64 0) (.int .i64 0)).run Try.prog W = .ok (.slice (some ⟨W.heap.size, 0, none⟩) 0 0) (W.alloc (.cells (madeCells #[.int .i64 0, .bool false, .slice none 0 0] (0 * 3)) 38)) := make_lockings 0 (by omega)
    clear hmk hin
    go_enter Try.func23, Try.ntmps23
    go_wp2
    refine wp_loop_rounds 1 ?_
    rw [rounds_succ]
    go_wp2
    go_ret
    have h := World.ownsRow_lit (base := w.heap.size) (e := 38) (size := 3) w (madeCells #[.int .i64 0, .bool false, .slice none 0 0] (0 * 3)) 0 (Nat.le_refl _) (by decide) (by rw [size_madeCells])
    rw [show (madeCells #[Value.int .i64 0, .bool false, .slice none 0 0] (0 * 3)).toList = [] by simp [madeCells]] at h
    exact ⟨_, [], rfl, ⟨h, fun r hr => absurd hr (by simp), List.Pairwise.nil, fun r hr => absurd hr (by simp)⟩, rfl, (Below.refl _ _).alloc (Nat.le_refl _) _⟩
  · have HC := Lib.hid hc
    have HIN := Lib.hid hin
    have ST := Lib.hid (show LocksTo w (w.alloc (.cells (madeCells #[.int .i64 0, .bool false, .slice none 0 0] (rows.length * 3)) 38)) rows 0 [] from by
      refine ⟨rfl, rfl, ?_, fun r hr => absurd hr (by simp), List.Pairwise.nil, (Below.refl _ _).alloc (Nat.le_refl _) _⟩
      have h := World.ownsRow_lit (base := w.heap.size) (e := 38) (size := 3) w (madeCells #[.int .i64 0, .bool false, .slice none 0 0] (rows.length * 3)) rows.length (Nat.le_refl _) (by unfold maxLen; omega) (by rw [size_madeCells])
      have e := made_flat #[.int .i64 0, .bool false, .slice none 0 0] rows.length
      rw [List.nil_append, List.drop_zero, half_none]
      exact e ▸ h)
    clear hc hin
    go_enter Try.func23, Try.ntmps23
    go_wp2
    clear hmk
    go_loopw [4] (fun i wr => ∃ (k : Nat) (rs : List LockR), k ≤ rows.length ∧ i = .int .i64 k ∧ Hid (LocksTo w wr rows k rs)) (fun i _ => rows.length - (intOf i).toNat)
    case atStart => exact ⟨0, [], Nat.zero_le _, rfl, ST⟩
    case round =>
      obtain ⟨k, rs, hk, rfl, hS⟩ := hrel
      have hb := hS.out.low
      by_cases hlt : k < rows.length
      · obtain ⟨x, hx⟩ : ∃ x, rows[k]? = some x := ⟨_, List.getElem?_eq_getElem hlt⟩
        obtain ⟨q0, q1, q2⟩ := LockR.at HC.out k x hx
        have c0 := cell_onV q0 hb
        have c1 := cell_onV q1 hb
        have c2 := cell_onV q2 hb
        have Hx := Lib.hid hx
        have RX := Lib.hid ((HIN.out x (List.mem_of_getElem? hx)).below hb)
        have hws : w.heap.size < wr.heap.size := own_lt_of hS.out.row
        clear q0 q1 q2 hx hb
        go_wp2_with fail
        refine (toLocking_any _ _ _ _ _ RX.out).mono ?_
        rintro e w1 ⟨v', rfl, ho, hb1⟩
        have SN := Lib.hid (hS.out.next Hx.out hb1 ho hws)
        obtain ⟨A', c', rfl⟩ := own_form ho
        have own1 := ownsRow_below hS.out.row hb1
        have hln : (rs ++ rows.drop k).length = rows.length := by have := hS.out.len; simp; omega
        have s0 : w1.cell? ⟨w.heap.size, k * 3, none⟩ = some (.int .i64 0) := (World.ownsRow.cellAt own1 (k * 3) (by omega)).trans (half_at lockRLen _ k (by omega) 0 _ rfl)
        have s1 : w1.cell? ⟨w.heap.size, k * 3 + 1, none⟩ = some (.bool false) := (World.ownsRow.cellAt own1 (k * 3 + 1) (by omega)).trans (half_at lockRLen _ k (by omega) 1 _ rfl)
        have s2 : w1.cell? ⟨w.heap.size, k * 3 + 2, none⟩ = some (.slice none 0 0) := (World.ownsRow.cellAt own1 (k * 3 + 2) (by omega)).trans (half_at lockRLen _ k (by omega) 2 _ rfl)
        have z0 : w1.frozen? ⟨w.heap.size, k * 3, none⟩ = false := World.ownsRow.frozenAt own1 _
        have z1 : w1.frozen? ⟨w.heap.size, k * 3 + 1, none⟩ = false := World.ownsRow.frozenAt own1 _
        have z2 : w1.frozen? ⟨w.heap.size, k * 3 + 2, none⟩ = false := World.ownsRow.frozenAt own1 _
        clear own1 hb1 ho hln c0 c1 c2
        go_wp2
        go_roundw
        case rel => exact ⟨k + 1, _, by omega, by go_num, SN⟩
        case measure => simp [intOf]; omega
      · obtain rfl : k = rows.length := by omega
        go_wp2
        go_ret
        exact ⟨_, rs, rfl, hS.out.all.1, hS.out.all.2, hS.out.low⟩
end Go.Proofs.Ytlddampjbmklkaa
namespace Go.Proofs.Ytlddampjbmklkaa
set_option maxRecDepth 100000
@[reducible] def shipNm (s : ByteArray) (p : ShipD) : Bool := p.name.toList == s.toList
/-- The index of the first ship of a name, or -1. -/
def shipI (l : List ShipD) (s : ByteArray) : Int := firstI (shipNm s) l
def flAt (l : List ShipD) (k : Nat) : Bool := match l[k]? with | some x => shipB x && (shipI l x.name == (k : Int)) | none => true
def fleetB (l : List ShipD) : Bool := decide (l.length ≤ 6) && (List.range l.length).all (flAt l)
def FirstF (l : List ShipD) (k : Nat) : Prop := ∀ j, j < k → flAt l j = true
theorem FirstF.zero (l : List ShipD) : FirstF l 0 := fun j hj => absurd hj (by omega)
theorem FirstF.next {l : List ShipD} {k : Nat} (h : FirstF l k) (hk : flAt l k = true) : FirstF l (k + 1) := fun j hj => by
  by_cases e : j = k
  · subst e; exact hk
  · exact h j (by omega)
theorem flAt_at {l : List ShipD} {k : Nat} {x : ShipD} (hx : l[k]? = some x) : flAt l k = (shipB x && (shipI l x.name == (k : Int))) := by unfold flAt; rw [hx]
theorem fleetB_long {l : List ShipD} (h : 6 < l.length) : fleetB l = false := by unfold fleetB; rw [decide_eq_false (by omega)]; rfl
theorem fleetB_no {l : List ShipD} {k : Nat} (hk : k < l.length) (h : flAt l k = false) : fleetB l = false := by
  unfold fleetB
  rw [List.all_eq_false.2 ⟨k, List.mem_range.2 hk, by rw [h]; simp⟩, Bool.and_false]
theorem fleetB_mk {l : List ShipD} (h : l.length ≤ 6) (h' : FirstF l l.length) : fleetB l = true := by
  unfold fleetB
  rw [decide_eq_true h, List.all_eq_true.2 (fun j hj => h' j (List.mem_range.1 hj))]; rfl
end Go.Proofs.Ytlddampjbmklkaa
namespace Go.Proofs.Ytlddampjbmklkaa
open Go.RowKit
set_option maxRecDepth 100000
/-- From w to w' only blocks of ex have changed, and new ones have come. -/
structure KeepX (ex : Nat → Prop) (w w' : World) : Prop where
  os : w'.os = w.os
  tape : w'.tape = w.tape
  output : w'.output = w.output
  size : w.heap.size ≤ w'.heap.size
  block : ∀ i, i < w.heap.size → ¬ ex i → w'.heap[i]? = w.heap[i]?
theorem KeepX.refl (ex : Nat → Prop) (w : World) : KeepX ex w w := ⟨rfl, rfl, rfl, Nat.le_refl _, fun _ _ _ => rfl⟩
theorem KeepX.trans {ex : Nat → Prop} {a b c : World} (h : KeepX ex a b) (k : KeepX ex b c) : KeepX ex a c :=
  ⟨k.os.trans h.os, k.tape.trans h.tape, k.output.trans h.output, Nat.le_trans h.size k.size, fun i hi hn => (k.block i (Nat.lt_of_lt_of_le hi h.size) hn).trans (h.block i hi hn)⟩
theorem KeepX.below {ex : Nat → Prop} {a b : World} (h : Below a.heap.size a b) : KeepX ex a b := ⟨h.os, h.tape, h.output, h.size, fun i hi _ => h.block i hi⟩
theorem KeepX.grown {ex : Nat → Prop} {a b : World} {row : Option Nat} (h : a.grownBy b row) (hr : ∀ g, row = some g → ex g) : KeepX ex a b := ⟨h.os, h.tape, h.output, h.size, fun i hi hn => h.block i hi (fun e => hn (hr i e.symm))⟩
theorem KeepX.alloc {ex : Nat → Prop} (a : World) (o : Obj) : KeepX ex a (a.alloc o) := .below ((Below.refl _ a).alloc (Nat.le_refl _) o)
theorem KeepX.drew {ex : Nat → Prop} (a : World) : KeepX ex a a.drew := ⟨rfl, rfl, rfl, Nat.le_refl _, fun _ _ _ => rfl⟩
theorem own_keep {α : Type} {k : Nat} {cs : α → List Value} {t : TypeId} {ex : Nat → Prop} {w w' : World} {base : Nat} {v : Value} {l : List α} (h : OwnOf k cs t w base v l) (hk : KeepX ex w w') (hv : ∀ g, v.ownBlock = some g → ¬ ex g) : OwnOf k cs t w' base v l := by
  refine ⟨h.1, ?_⟩
  rcases h.2 with hn | ⟨g, cap, cur, rfl, hb, hgg, rest⟩
  · exact .inl hn
  · exact .inr ⟨g, cap, cur, rfl, hb, (hk.block g (Array.getElem?_eq_some_iff.1 hgg).1 (hv g rfl)).trans hgg, rest⟩
section
variable (w : World)
end
end Go.Proofs.Ytlddampjbmklkaa
namespace Go.Proofs.Ytlddampjbmklkaa
open Go.RowKit
set_option maxRecDepth 100000
set_option maxHeartbeats 4000000 in
theorem specChamberOk (k : ChamberD) (w : World)  :
    Calls Try.prog 54 #[k.val] w (fun e w' => e = .returned (.bool (chamB k)) ∧ Below w.heap.size w w') := by
  obtain ⟨W0, hW0⟩ : ∃ W0, W0 = (w.alloc (.cells #[.int .i64 k.length, .int .i64 k.lanes, .int .i64 k.minutes] 24)) := ⟨_, rfl⟩
  have B := Lib.hid (Joins.below_alloc1 w (.cells #[.int .i64 k.length, .int .i64 k.lanes, .int .i64 k.minutes] 24))
  have Kk := Lib.hid (Blk.new w #[.int .i64 k.length, .int .i64 k.lanes, .int .i64 k.minutes] 24)
  have HW0 := Lib.hid hW0
  rw [← hW0] at B Kk
  clear hW0
  obtain ⟨b1, hb1⟩ : ∃ b, inB k.length 10 1000 = b := ⟨_, rfl⟩
  have Hb1 := Lib.hid hb1
  obtain ⟨b2, hb2⟩ : ∃ b, inB k.lanes 1 3 = b := ⟨_, rfl⟩
  have Hb2 := Lib.hid hb2
  obtain ⟨b3, hb3⟩ : ∃ b, inB k.minutes 1 120 = b := ⟨_, rfl⟩
  have Hb3 := Lib.hid hb3
  have E0 := Lib.hid (show chamB k = (b1 && b2 && b3) by unfold chamB; rw [hb1, hb2, hb3])
  clear hb1 hb2 hb3
  cases b1 with
  | false =>
    have E := Lib.hid (E0.out.trans (show _ = false by simp))
    go_enter Try.func54, Try.ntmps54
    have vk0 : W0.cell? ⟨w.heap.size, 0, none⟩ = some (.int .i64 k.length) := Kk.out.cell 0
    have vk1 : W0.cell? ⟨w.heap.size, 1, none⟩ = some (.int .i64 k.lanes) := Kk.out.cell 1
    have vk2 : W0.cell? ⟨w.heap.size, 2, none⟩ = some (.int .i64 k.minutes) := Kk.out.cell 2
    go_wp2_with fail
    rw [← HW0.out]
    clear vk0 vk1 vk2
    refine (l01In_any _ _ _ _).mono ?_
    rw [Hb1.out]
    rintro e wz ⟨rfl, rfl⟩
    have vk0 : W0.cell? ⟨w.heap.size, 0, none⟩ = some (.int .i64 k.length) := Kk.out.cell 0
    have vk1 : W0.cell? ⟨w.heap.size, 1, none⟩ = some (.int .i64 k.lanes) := Kk.out.cell 1
    have vk2 : W0.cell? ⟨w.heap.size, 2, none⟩ = some (.int .i64 k.minutes) := Kk.out.cell 2
    go_wp2
    go_ret
    exact ⟨ret_bool E.out.symm, B.out⟩
  | true =>
  cases b2 with
  | false =>
    have E := Lib.hid (E0.out.trans (show _ = false by simp))
    go_enter Try.func54, Try.ntmps54
    have vk0 : W0.cell? ⟨w.heap.size, 0, none⟩ = some (.int .i64 k.length) := Kk.out.cell 0
    have vk1 : W0.cell? ⟨w.heap.size, 1, none⟩ = some (.int .i64 k.lanes) := Kk.out.cell 1
    have vk2 : W0.cell? ⟨w.heap.size, 2, none⟩ = some (.int .i64 k.minutes) := Kk.out.cell 2
    go_wp2_with fail
    rw [← HW0.out]
    clear vk0 vk1 vk2
    refine (l01In_any _ _ _ _).mono ?_
    rw [Hb1.out]
    rintro e wz ⟨rfl, rfl⟩
    have vk0 : W0.cell? ⟨w.heap.size, 0, none⟩ = some (.int .i64 k.length) := Kk.out.cell 0
    have vk1 : W0.cell? ⟨w.heap.size, 1, none⟩ = some (.int .i64 k.lanes) := Kk.out.cell 1
    have vk2 : W0.cell? ⟨w.heap.size, 2, none⟩ = some (.int .i64 k.minutes) := Kk.out.cell 2
    go_wp2_with fail
    clear vk0 vk1 vk2
    refine (l01In_any _ _ _ _).mono ?_
    rw [Hb2.out]
    rintro e wz ⟨rfl, rfl⟩
    have vk0 : W0.cell? ⟨w.heap.size, 0, none⟩ = some (.int .i64 k.length) := Kk.out.cell 0
    have vk1 : W0.cell? ⟨w.heap.size, 1, none⟩ = some (.int .i64 k.lanes) := Kk.out.cell 1
    have vk2 : W0.cell? ⟨w.heap.size, 2, none⟩ = some (.int .i64 k.minutes) := Kk.out.cell 2
    go_wp2
    go_ret
    exact ⟨ret_bool E.out.symm, B.out⟩
  | true =>
  have E := Lib.hid (E0.out.trans (show _ = b3 by simp))
  go_enter Try.func54, Try.ntmps54
  have vk0 : W0.cell? ⟨w.heap.size, 0, none⟩ = some (.int .i64 k.length) := Kk.out.cell 0
  have vk1 : W0.cell? ⟨w.heap.size, 1, none⟩ = some (.int .i64 k.lanes) := Kk.out.cell 1
  have vk2 : W0.cell? ⟨w.heap.size, 2, none⟩ = some (.int .i64 k.minutes) := Kk.out.cell 2
  go_wp2_with fail
  rw [← HW0.out]
  clear vk0 vk1 vk2
  refine (l01In_any _ _ _ _).mono ?_
  rw [Hb1.out]
  rintro e wz ⟨rfl, rfl⟩
  have vk0 : W0.cell? ⟨w.heap.size, 0, none⟩ = some (.int .i64 k.length) := Kk.out.cell 0
  have vk1 : W0.cell? ⟨w.heap.size, 1, none⟩ = some (.int .i64 k.lanes) := Kk.out.cell 1
  have vk2 : W0.cell? ⟨w.heap.size, 2, none⟩ = some (.int .i64 k.minutes) := Kk.out.cell 2
  go_wp2_with fail
  clear vk0 vk1 vk2
  refine (l01In_any _ _ _ _).mono ?_
  rw [Hb2.out]
  rintro e wz ⟨rfl, rfl⟩
  have vk0 : W0.cell? ⟨w.heap.size, 0, none⟩ = some (.int .i64 k.length) := Kk.out.cell 0
  have vk1 : W0.cell? ⟨w.heap.size, 1, none⟩ = some (.int .i64 k.lanes) := Kk.out.cell 1
  have vk2 : W0.cell? ⟨w.heap.size, 2, none⟩ = some (.int .i64 k.minutes) := Kk.out.cell 2
  go_wp2_with fail
  clear vk0 vk1 vk2
  refine (l01In_any _ _ _ _).mono ?_
  rw [Hb3.out]
  rintro e wz ⟨rfl, rfl⟩
  have vk0 : W0.cell? ⟨w.heap.size, 0, none⟩ = some (.int .i64 k.length) := Kk.out.cell 0
  have vk1 : W0.cell? ⟨w.heap.size, 1, none⟩ = some (.int .i64 k.lanes) := Kk.out.cell 1
  have vk2 : W0.cell? ⟨w.heap.size, 2, none⟩ = some (.int .i64 k.minutes) := Kk.out.cell 2
  go_wp2
  go_ret
  exact ⟨ret_bool E.out.symm, B.out⟩
set_option maxHeartbeats 2000000 in
theorem specLengthsOk (v : Value) (l : List Int) (w : World) (h : SlInt w v l) : Calls Try.prog 79 #[v] w (fun e w' => e = .returned (.bool (lensB l)) ∧ Below w.heap.size w w') := by
  have HS := Lib.hid h
  have hl := h.1
  obtain ⟨A1, c1, rfl⟩ := SlOf.form h
  clear h
  by_cases h8 : l.length ≤ 8
  rotate_left
  · have E := Lib.hid (lensB_long h8)
    have h8' : 8 < l.length := by omega
    go_enter Try.func79, Try.ntmps79
    go_wp2
    go_ret
    exact ⟨ret_bool E.out.symm, Below.refl _ _⟩
  go_enter Try.func79, Try.ntmps79
  go_wp2
  go_loopw [10] (fun i wr => ∃ k : Nat, k ≤ l.length ∧ i = .int .i64 (k : Int) ∧ Hid (LensTo l k) ∧ Hid (Below w.heap.size w wr)) (fun i _ => l.length - (intOf i).toNat)
  case atStart => exact ⟨0, Nat.zero_le _, rfl, Lib.hid (fun i _ hi => absurd hi (by omega)), Lib.hid (Below.refl _ _)⟩
  case round =>
    obtain ⟨k, hk, rfl, hA, hb⟩ := hrel
    by_cases hlt : k < l.length
    rotate_left
    · obtain rfl : k = l.length := by omega
      have E := Lib.hid (hA.out.all h8)
      go_wp2
      go_ret
      exact ⟨ret_bool E.out.symm, hb.out⟩
    obtain ⟨n, hn⟩ : ∃ n, l[k]? = some n := ⟨_, List.getElem?_eq_getElem hlt⟩
    rcases HS.out.2 with ⟨he, _⟩ | ⟨g, o, c, e, hpos, hcap, hc⟩
    · rw [he] at hlt; simp at hlt
    injection e with hA' _ hcp
    subst hA' hcp
    have y0 := cell_onV (SlInt.cells hc k n hn) hb.out
    have HN := Lib.hid hn
    obtain ⟨t, ht⟩ : ∃ t, inB n 1 400 = t := ⟨_, rfl⟩
    have HT := Lib.hid ht
    clear hn ht hc
    go_wp2_with fail
    refine (l01In_any _ _ _ _).mono ?_
    rw [HT.out]
    rintro e wz ⟨rfl, rfl⟩
    clear y0
    cases t with
    | false =>
      have E := Lib.hid (lensB_no HN.out HT.out)
      go_wp2
      go_ret
      exact ⟨ret_bool E.out.symm, hb.out⟩
    | true =>
      have N2 := Lib.hid (hA.out.next HN.out HT.out)
      go_wp2
      go_roundw
      case rel => exact ⟨k + 1, by omega, by go_num, N2, hb⟩
      case measure => simp [intOf]; omega
end Go.Proofs.Ytlddampjbmklkaa
