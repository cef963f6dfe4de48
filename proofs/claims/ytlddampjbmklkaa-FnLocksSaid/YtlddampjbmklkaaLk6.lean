
/- What LocksLaw rests on, part 6: contracts and mathematics. -/
import Derived.Test.YtlddampjbmklkaaLk4
import Derived.Test.YtlddampjbmklkaaLk0
import Derived.StillTailTactics
import Derived.Deep.DeepCutAuto
import Derived.Test.YtlddampjbmklkaaLk2
import Derived.Test.YtlddampjbmklkaaLk1
import Derived.Test.YtlddampjbmklkaaLk3
import Derived.Deep.AppendLies
import Derived.Deep.RegionHeld3
namespace Go.Proofs.Ytlddampjbmklkaa
set_option maxRecDepth 100000
@[reducible] def shipNm (s : ByteArray) (p : ShipD) : Bool := p.name.toList == s.toList
/-- The index of the first ship of a name, or -1. -/
def shipI (l : List ShipD) (s : ByteArray) : Int := firstI (shipNm s) l
def flAt (l : List ShipD) (k : Nat) : Bool := match l[k]? with | some x => shipB x && (shipI l x.name == (k : Int)) | none => true
def fleetB (l : List ShipD) : Bool := decide (l.length ≤ 6) && (List.range l.length).all (flAt l)
def FirstF (l : List ShipD) (k : Nat) : Prop := ∀ j, j < k → flAt l j = true
theorem FirstF.zero (l : List ShipD) : FirstF l 0 := fun j hj => absurd hj (by omega)
theorem FirstF.next {l : List ShipD} {k : Nat} (h : FirstF l k) (hk : flAt l k = true) : FirstF l (k + 1) := fun j hj => by
  by_cases e : j = k
  · subst e; exact hk
  · exact h j (by omega)
theorem flAt_at {l : List ShipD} {k : Nat} {x : ShipD} (hx : l[k]? = some x) : flAt l k = (shipB x && (shipI l x.name == (k : Int))) := by unfold flAt; rw [hx]
theorem fleetB_long {l : List ShipD} (h : 6 < l.length) : fleetB l = false := by unfold fleetB; rw [decide_eq_false (by omega)]; rfl
theorem fleetB_no {l : List ShipD} {k : Nat} (hk : k < l.length) (h : flAt l k = false) : fleetB l = false := by
  unfold fleetB
  rw [List.all_eq_false.2 ⟨k, List.mem_range.2 hk, by rw [h]; simp⟩, Bool.and_false]
theorem fleetB_mk {l : List ShipD} (h : l.length ≤ 6) (h' : FirstF l l.length) : fleetB l = true := by
  unfold fleetB
  rw [decide_eq_true h, List.all_eq_true.2 (fun j hj => h' j (List.mem_range.1 hj))]; rfl
theorem fleetB_true {l : List ShipD} (h : fleetB l = true) : l.length ≤ 6 ∧ FirstF l l.length := by
  unfold fleetB at h
  rw [Bool.and_eq_true, decide_eq_true_iff] at h
  exact ⟨h.1, fun j hj => List.all_eq_true.1 h.2 j (List.mem_range.2 hj)⟩
theorem fleetB_ship {l : List ShipD} (h : fleetB l = true) {k : Nat} {x : ShipD} (hx : l[k]? = some x) : shipB x = true ∧ shipI l x.name = (k : Int) := by
  have hk := (fleetB_true h).2 k (List.getElem?_eq_some_iff.1 hx).1
  rw [flAt_at hx, Bool.and_eq_true] at hk
  exact ⟨hk.1, by simpa using hk.2⟩
/-- The indices below k at which p holds. -/
def idxF {α : Type} (p : α → Bool) (l : List α) : Nat → List Int
  | 0 => []
  | k + 1 => idxF p l k ++ (match l[k]? with | some x => if p x = true then [(k : Int)] else [] | none => [])
theorem idxF_yes {α : Type} {p : α → Bool} {l : List α} {k : Nat} {x : α} (hx : l[k]? = some x) (h : p x = true) : idxF p l (k + 1) = idxF p l k ++ [(k : Int)] := by
  show idxF p l k ++ _ = _
  rw [hx]; simp only [h, if_true]
theorem idxF_no {α : Type} {p : α → Bool} {l : List α} {k : Nat} {x : α} (hx : l[k]? = some x) (h : p x = false) : idxF p l (k + 1) = idxF p l k := by
  show idxF p l k ++ _ = _
  rw [hx]; simp [h]
end Go.Proofs.Ytlddampjbmklkaa
namespace Go.Proofs.Ytlddampjbmklkaa
open Go.RowKit
set_option maxRecDepth 100000
/-- The shape of every list of ships. -/
def ShipsShape (rows : List LockR) : Prop := ∀ r ∈ rows, ∃ A c, r.v = .slice A r.ships.length c
/-- How many ships the lockings name. -/
def bulkD : List LockD → Int
  | [] => 0
  | g :: l => (g.ships.length : Int) + bulkD l
theorem bulkD_map : ∀ rs : List LockR, bulkD (rs.map LockR.d) = bulkLock rs
  | [] => rfl
  | r :: rs => congrArg ((r.ships.length : Int) + ·) (bulkD_map rs)
theorem bulkD_app : ∀ a b : List LockD, bulkD (a ++ b) = bulkD a + bulkD b
  | [], b => by simp [bulkD]
  | g :: a, b => by
    have := bulkD_app a b
    show (g.ships.length : Int) + bulkD (a ++ b) = (g.ships.length : Int) + bulkD a + bulkD b
    omega
theorem bulkD_pos : ∀ l : List LockD, 0 ≤ bulkD l
  | [] => Int.le_refl _
  | g :: l => by have := bulkD_pos l; show 0 ≤ (g.ships.length : Int) + bulkD l; omega
theorem bulkLock_same : ∀ {a b : List LockR}, a.map LockR.d = b.map LockR.d → bulkLock a = bulkLock b
  | [], [], _ => rfl
  | [], _ :: _, h => by simp at h
  | _ :: _, [], h => by simp at h
  | x :: a, y :: b, h => by
    simp only [List.map_cons, List.cons.injEq] at h
    have e : x.ships = y.ships := congrArg LockD.ships h.1
    show (x.ships.length : Int) + bulkLock a = (y.ships.length : Int) + bulkLock b
    rw [e, bulkLock_same h.2]
def FreeRs (w : World) (rows : List LockR) : Prop := ∀ r ∈ rows, FreeV w r.v
def RangeRs (rows : List LockR) (a b : Nat) : Prop := ∀ r ∈ rows, RangeV r.v a b
theorem FreeRs.below {w w' : World} {rows : List LockR} (h : FreeRs w rows) (hb : Below w.heap.size w w') : FreeRs w' rows := fun u hu => (h u hu).below hb
theorem bulkLock_ships {rows : List LockR} {r : LockR} (h : r ∈ rows) : (r.ships.length : Int) ≤ bulkLock rows := by
  have := bulkLock_mem h
  omega
theorem OwnLocks.parts {w : World} {base : Nat} {v : Value} {rows : List LockR} (h : OwnLocks w base v rows) (h1 : (rows.length : Int) + bulkLock rows ≤ 10000000) :
    (∃ A c, v = .slice A rows.length c) ∧ RdLocks w v rows ∧ FreeV w v ∧ FreeRs w rows ∧ RangeV v base w.heap.size ∧ RangeRs rows base w.heap.size ∧ rows.Pairwise (fun a b => ApartV a.v b.v) ∧ (∀ r ∈ rows, ApartV v r.v) ∧ ShipsShape rows := by
  obtain ⟨ho, hi, hp, hv⟩ := h
  have hbp := bulkLock_pos rows
  refine ⟨own_form ho, ⟨own_sl lockRLen ho (by omega), fun r hr => OwnInt.sl (hi r hr) (by have := bulkLock_ships hr; omega)⟩, own_freeV ho, fun r hr => own_freeV (hi r hr), own_range ho, fun r hr => own_range (hi r hr), hp, hv, fun r hr => own_form (hi r hr)⟩
end Go.Proofs.Ytlddampjbmklkaa
namespace Go.Proofs.Ytlddampjbmklkaa
open Go.RowKit
set_option maxRecDepth 100000
/-- Lanes: a block whose cells hold lists of one's own, no two in one block, none in the block of the lanes; what lay before wd was is as it was. -/
structure LanesAt (wd w : World) (g : Nat) (vs : List Value) (ls : List (List Int)) : Prop where
  blk : Blk w g vs.toArray 116
  len : vs.length = ls.length
  own : ∀ (i : Nat) v l, vs[i]? = some v → ls[i]? = some l → OwnInt w wd.heap.size v l
  ap : ∀ (i j : Nat) v u, i ≠ j → vs[i]? = some v → vs[j]? = some u → ApartV v u
  far : ∀ v ∈ vs, v.ownBlock ≠ some g
  ge : wd.heap.size ≤ g
  low : Below wd.heap.size wd w
section
variable {wd w : World} {g : Nat} {vs : List Value} {ls : List (List Int)}
theorem LanesAt.cell (h : LanesAt wd w g vs ls) {i : Nat} {v : Value} (hv : vs[i]? = some v) : w.cell? ⟨g, i, none⟩ = some v := (h.blk.cell i).trans (by simpa using hv)
theorem LanesAt.below (h : LanesAt wd w g vs ls) {w' : World} (hb : Below w.heap.size w w') : LanesAt wd w' g vs ls :=
  ⟨h.blk.below hb, h.len, fun i v l hv hl => own_below (h.own i v l hv hl) hb, h.ap, h.far, h.ge, h.low.trans (hb.mono h.low.size)⟩
theorem LanesAt.drew (h : LanesAt wd w g vs ls) : LanesAt wd w.drew g vs ls := h.below (Below.refl _ w).drew
theorem LanesAt.at (h : LanesAt wd w g vs ls) {i : Nat} (hi : i < ls.length) : ∃ v l, vs[i]? = some v ∧ ls[i]? = some l :=
  ⟨_, _, List.getElem?_eq_getElem (by have := h.len; omega), List.getElem?_eq_getElem hi⟩
/-- A lane has grown into x', and its cell is written. -/
theorem LanesAt.push (h : LanesAt wd w g vs ls) {i : Nat} {v : Value} {l m : List Int} (hv : vs[i]? = some v) (hl : ls[i]? = some l) {x' : World} {g' n cap : Nat} (hown : OwnInt x' wd.heap.size (.slice (some ⟨g', 0, none⟩) n cap) m)
    (hgr : w.grownBy x' v.ownBlock) (hor : v.ownBlock = some g' ∨ g' = w.heap.size) : LanesAt wd (x'.setCell ⟨g, i, none⟩ (.slice (some ⟨g', 0, none⟩) n cap)) g (vs.set i (.slice (some ⟨g', 0, none⟩) n cap)) (ls.set i m) := by
  have hvm := List.mem_of_getElem? hv
  have hfar : g' ≠ g := by
    rcases hor with e | e
    · exact fun he => h.far v hvm (by rw [e, he])
    · have := h.blk.lt; omega
  have hil : i < vs.length := (List.getElem?_eq_some_iff.1 hv).1
  have hgs := grown_set1 x' g i (.slice (some ⟨g', 0, none⟩) n cap)
  have hk1 : KeepX (fun b => v.ownBlock = some b) w x' := KeepX.grown hgr (fun _ e => e)
  have hk2 : KeepX (fun b => b = g) x' (x'.setCell ⟨g, i, none⟩ (.slice (some ⟨g', 0, none⟩) n cap)) := KeepX.grown hgs (fun _ e => (Option.some.inj e).symm)
  have hblk : Blk x' g vs.toArray 116 := h.blk.grown hgr (fun e => h.far v hvm e.symm)
  have newfar : ∀ (j : Nat) u, j ≠ i → vs[j]? = some u → u.ownBlock ≠ some g' := fun j u hj hu e => by
    rcases hor with e' | e'
    · exact h.ap i j v u (fun e => hj e.symm) hv hu g' e' e
    · obtain ⟨k, hk⟩ : ∃ k, ls[j]? = some k := ⟨_, List.getElem?_eq_getElem (by have := h.len; have := (List.getElem?_eq_some_iff.1 hu).1; omega)⟩
      have := own_range (h.own j u k hu hk) g' e
      omega
  refine ⟨?_, by simp [h.len], fun j u k hu hk => ?_, fun j1 j2 u1 u2 hne hu1 hu2 => ?_, fun u hu => ?_, h.ge, ?_⟩
  · have := hblk.set i (.slice (some ⟨g', 0, none⟩) n cap)
    rwa [List.setIfInBounds_toArray] at this
  · by_cases e : j = i
    · subst e
      rw [List.getElem?_set_self hil] at hu
      rw [List.getElem?_set_self (by have := h.len; omega)] at hk
      injection hu with hu
      injection hk with hk
      subst hu hk
      exact own_keep hown hk2 (fun b hb e => hfar (by simp [Value.ownBlock] at hb; omega))
    · rw [List.getElem?_set_ne (fun e' => e e'.symm)] at hu hk
      refine own_keep (own_keep (h.own j u k hu hk) hk1 (fun b hb e' => h.ap j i u v e hu hv b hb e')) hk2 (fun b hb e' => h.far u (List.mem_of_getElem? hu) (by rw [hb, e']))
  · by_cases e1 : j1 = i
    · by_cases e2 : j2 = i
      · omega
      · subst e1
        rw [List.getElem?_set_self hil] at hu1
        rw [List.getElem?_set_ne (fun e' => e2 e'.symm)] at hu2
        injection hu1 with hu1
        subst hu1
        intro b hb hb'
        simp [Value.ownBlock] at hb
        exact newfar j2 u2 e2 hu2 (by rw [hb', hb])
    · rw [List.getElem?_set_ne (fun e' => e1 e'.symm)] at hu1
      by_cases e2 : j2 = i
      · subst e2
        rw [List.getElem?_set_self hil] at hu2
        injection hu2 with hu2
        subst hu2
        intro b hb hb'
        simp [Value.ownBlock] at hb'
        exact newfar j1 u1 e1 hu1 (by rw [hb, hb'])
      · rw [List.getElem?_set_ne (fun e' => e2 e'.symm)] at hu2
        exact h.ap j1 j2 u1 u2 hne hu1 hu2
  · rcases List.mem_or_eq_of_mem_set hu with hu | rfl
    · exact h.far u hu
    · simpa [Value.ownBlock] using hfar
  · have h1 : Below wd.heap.size wd x' := h.low.grown hgr h.low.size (fun j e => by
      have := own_range (h.own i v l hv hl) j e
      omega)
    exact h1.grown hgs (by have := h1.size; omega) (fun j e => by have := Option.some.inj e; have := h.ge; omega)
theorem own_take {w : World} {base : Nat} {A : Option Addr} {l : List Int} {n c : Nat} (h : OwnInt w base (.slice A l.length c) l) (hn : n ≤ l.length) (hl : 0 < l.length) : OwnInt w base (.slice A n c) (l.take n) := by
  refine ⟨by rw [flat_len intLen], ?_⟩
  rcases h.2 with ⟨-, h0⟩ | ⟨g, cap, cur, e, hb, hg, hnc, hcm, hcs, htake⟩
  · omega
  · injection e with e1 e2 e3
    subst e1 e3
    refine .inr ⟨g, c, cur, by rw [List.length_take, Nat.min_eq_left hn], hb, hg, by rw [List.length_take]; omega, hcm, hcs, ?_⟩
    have : ∀ (l : List Int) (n : Nat), (l.take n).flatMap intCells = (l.flatMap intCells).take (n * 1) := by
      intro l
      induction l with
      | nil => intro n; simp
      | cons a l ih =>
        intro n
        cases n with
        | zero => simp
        | succ n =>
          have := ih n
          simp only [Nat.mul_one] at this ⊢
          show Value.int .i64 a :: (l.take n).flatMap intCells = Value.int .i64 a :: (l.flatMap intCells).take n
          rw [this]
    rw [this, ← htake, List.take_take]
    congr 1
    rw [List.length_take]
    omega
/-- A lane has been taken from, and its cell is written. -/
theorem LanesAt.pop (h : LanesAt wd w g vs ls) {i : Nat} {A : Option Addr} {l : List Int} {n c : Nat} (hv : vs[i]? = some (.slice A l.length c)) (hl : ls[i]? = some l) (hn : n ≤ l.length) (hl0 : 0 < l.length) :
    LanesAt wd (w.setCell ⟨g, i, none⟩ (.slice A n c)) g (vs.set i (.slice A n c)) (ls.set i (l.take n)) := by
  have hvm := List.mem_of_getElem? hv
  have hil : i < vs.length := (List.getElem?_eq_some_iff.1 hv).1
  have hob : ∀ b, (Value.slice A n c).ownBlock = some b ↔ (Value.slice A l.length c).ownBlock = some b := fun b => by cases A <;> simp [Value.ownBlock]
  have hgs := grown_set1 w g i (.slice A n c)
  have hk2 : KeepX (fun b => b = g) w (w.setCell ⟨g, i, none⟩ (.slice A n c)) := KeepX.grown hgs (fun _ e => (Option.some.inj e).symm)
  refine ⟨?_, by simp [h.len], fun j u k hu hk => ?_, fun j1 j2 u1 u2 hne hu1 hu2 => ?_, fun u hu => ?_, h.ge, ?_⟩
  · have := h.blk.set i (.slice A n c)
    rwa [List.setIfInBounds_toArray] at this
  · by_cases e : j = i
    · subst e
      rw [List.getElem?_set_self hil] at hu
      rw [List.getElem?_set_self (by have := h.len; omega)] at hk
      injection hu with hu
      injection hk with hk
      subst hu hk
      exact own_keep (own_take (h.own j _ l hv hl) hn hl0) hk2 (fun b hb e => h.far _ hvm (by rw [← e]; exact (hob b).1 hb))
    · rw [List.getElem?_set_ne (fun e' => e e'.symm)] at hu hk
      exact own_keep (h.own j u k hu hk) hk2 (fun b hb e' => h.far u (List.mem_of_getElem? hu) (by rw [hb, e']))
  · by_cases e1 : j1 = i
    · by_cases e2 : j2 = i
      · omega
      · subst e1
        rw [List.getElem?_set_self hil] at hu1
        rw [List.getElem?_set_ne (fun e' => e2 e'.symm)] at hu2
        injection hu1 with hu1
        subst hu1
        exact fun b hb hb' => h.ap j1 j2 _ u2 hne hv hu2 b ((hob b).1 hb) hb'
    · rw [List.getElem?_set_ne (fun e' => e1 e'.symm)] at hu1
      by_cases e2 : j2 = i
      · subst e2
        rw [List.getElem?_set_self hil] at hu2
        injection hu2 with hu2
        subst hu2
        exact fun b hb hb' => h.ap j1 j2 u1 _ hne hu1 hv b hb ((hob b).1 hb')
      · rw [List.getElem?_set_ne (fun e' => e2 e'.symm)] at hu2
        exact h.ap j1 j2 u1 u2 hne hu1 hu2
  · rcases List.mem_or_eq_of_mem_set hu with hu | rfl
    · exact h.far u hu
    · exact fun e => h.far _ hvm ((hob g).1 e)
  · exact h.low.grown hgs h.low.size (fun j e => by have := Option.some.inj e; have := h.ge; omega)
/-- New lanes: all empty. -/
theorem LanesAt.new (w : World) (n : Nat) : LanesAt w (w.alloc (.cells (List.replicate n (Value.slice none 0 0)).toArray 116)) w.heap.size (List.replicate n (.slice none 0 0)) (List.replicate n []) := by
  have hr : ∀ (i : Nat) v, (List.replicate n (Value.slice none 0 0))[i]? = some v → v = .slice none 0 0 := fun i v h => by
    rw [List.getElem?_replicate] at h
    split at h
    · injection h with h; exact h.symm
    · cases h
  refine ⟨Blk.new w _ _, by simp, fun i v l hv hl => ?_, fun i j v u _ hv _ b hb => ?_, fun v hv => ?_, Nat.le_refl _, Joins.below_alloc1 w _⟩
  · rw [hr i v hv]
    rw [List.getElem?_replicate] at hl
    split at hl
    · injection hl with hl
      rw [← hl]
      exact World.ownsRow_nil _ _ _ _
    · cases hl
  · rw [hr i v hv] at hb; simp [Value.ownBlock] at hb
  · obtain ⟨i, hi, e⟩ := List.getElem_of_mem hv
    rw [hr i v (by rw [List.getElem?_eq_getElem hi, e])]
    simp [Value.ownBlock]
end
theorem end0 {P : Program} {fn : Func} {R : Ending → World → Prop} {a : Act} {w : World} (hr : fn.results = #[]) (hd : a.defers = []) (hR : R (.returned (.tuple #[])) w) : bodyPost P fn R .normal a w := by
  exact bodyPost_end (results_none hr _ _ _) hd hR
set_option maxHeartbeats 4000000 in
theorem implPush {wd w : World} {g i : Nat} {vs : List Value} {ls : List (List Int)} {l : List Int} (x : Int) (h : LanesAt wd w g vs ls) (hl : ls[i]? = some l) (hn : l.length ≤ 1000) :
    Calls Try.prog 93 #[.pointer (some ⟨g, i, none⟩), .int .i64 x] w fun e w' => ∃ v', e = .returned (.tuple #[]) ∧ LanesAt wd w' g (vs.set i v') (ls.set i (l ++ [x])) := by
  obtain ⟨v, hv⟩ : ∃ v, vs[i]? = some v := ⟨_, List.getElem?_eq_getElem (by have := h.len; have := (List.getElem?_eq_some_iff.1 hl).1; omega)⟩
  obtain ⟨A, c, rfl⟩ := own_form (h.own i v l hv hl)
  obtain ⟨i0, hi, hz0, hz1, hz2⟩ := info1_int
  have HI := Lib.hid (And.intro hi (And.intro hz0 (And.intro hz1 hz2)))
  have c0 : w.cell? ⟨g, i, none⟩ = some (.slice A l.length c) := h.cell hv
  have f0 : w.frozen? ⟨g, i, none⟩ = false := h.blk.free i
  have hb1 := Joins.below_alloc1 w (.cells #[.int .i64 x] 3)
  have H1 := Lib.hid (h.below hb1)
  have HN := Lib.hid (World.news_of_block (heap_alloc_new w (.cells #[.int .i64 x] 3)))
  have hsz : wd.heap.size ≤ w.heap.size + 1 := by have := h.low.size; omega
  have HV := Lib.hid hv
  have HL := Lib.hid hl
  have hgl := h.blk.lt
  have OWN := Lib.hid (H1.out.own i _ l hv hl)
  have hi' := HI.out
  clear hi hz0 hz1 hz2 h hv hl hb1 HI
  go_enter Try.func93, Try.ntmps93
  go_wp2_with (at_builtin; refine wpList_append_lies _ rfl _ _ _ rfl wd.heap.size 3 i0 _ 1 8 Try.underlying33 hi'.1 hi'.2.1 hi'.2.2.1 hi'.2.2.2 rfl (by omega) (.slice A l.length c) l.length (l.flatMap intCells) rfl OWN.out ⟨w.heap.size, 0, none⟩ 1 1 [.int .i64 x] (by first | rfl | simp) rfl HN.out (by simp [Value.oneCell']) (by omega) (by unfold maxLen; omega) (by omega) (by first | omega | (simp; omega)) _ rfl ?_; intro g4 cap4 w4 hown4 hgrow4 hor4 hlt4; have PX := Lib.hid (H1.out.push (m := l ++ [x]) HV.out HL.out (by unfold OwnInt OwnOf; rw [List.length_append, List.flatMap_append]; exact hown4) hgrow4 hor4); have c4 : w4.frozen? ⟨g, i, none⟩ = false := (H1.out.blk.grown hgrow4 (fun e => H1.out.far _ (List.mem_of_getElem? HV.out) e.symm)).free i; have s4 : ∃ u, w4.cell? ⟨g, i, none⟩ = some u := ⟨_, ((H1.out.blk.grown hgrow4 (fun e => H1.out.far _ (List.mem_of_getElem? HV.out) e.symm)).cell i).trans (show _ = some (Value.slice A l.length c) by simpa using HV.out)⟩; obtain ⟨u4, s4⟩ := s4; clear hown4 hgrow4 hor4 hlt4)
  exact end0 rfl rfl ⟨rfl, _, PX.out⟩
set_option maxHeartbeats 4000000 in
theorem implPop {wd w : World} {g i : Nat} {vs : List Value} {ls : List (List Int)} {l : List Int} (x : Int) (h : LanesAt wd w g vs ls) (hl : ls[i]? = some (l ++ [x])) (hn : l.length ≤ 1000) :
    Calls Try.prog 94 #[.pointer (some ⟨g, i, none⟩)] w fun e w' => ∃ v', e = .returned (.tuple #[]) ∧ LanesAt wd w' g (vs.set i v') (ls.set i l) ∧ (∀ b, b ≠ g → w'.heap[b]? = w.heap[b]?) ∧ w'.heap.size = w.heap.size := by
  obtain ⟨v, hv⟩ : ∃ v, vs[i]? = some v := ⟨_, List.getElem?_eq_getElem (by have := h.len; have := (List.getElem?_eq_some_iff.1 hl).1; omega)⟩
  have hown := h.own i v _ hv hl
  rcases hown.2 with ⟨-, h0⟩ | ⟨b, c, cur, rfl, hb, hg, hnc, hcm, hcs, -⟩
  · simp at h0
  have e1 : (l ++ [x]).length = l.length + 1 := by simp
  have P1 := Lib.hid ((h.drew).pop (n := l.length) hv hl (by simp) (by simp))
  have c0 : w.cell? ⟨g, i, none⟩ = some (.slice (some ⟨b, 0, none⟩) (l.length + 1) c) := by rw [← e1]; exact h.cell hv
  have f0 : w.frozen? ⟨g, i, none⟩ = false := h.blk.free i
  obtain ⟨m, hm⟩ : ∃ m, l.length = m := ⟨_, rfl⟩
  rw [e1] at hnc
  rw [hm] at c0 P1 hn hnc
  have HM := Lib.hid hm
  have et : (l ++ [x]).take m = l := by rw [← hm]; exact List.take_left
  rw [et] at P1
  clear h hl hv hown hg hcs e1 hm et hcm
  go_enter Try.func94, Try.ntmps94
  have wm : IntKind.i64.wrap ((m : Int) + 1 - 1) = (m : Int) := by rw [IntKind.wrap_i64]; omega
  have wm2 : IntKind.i64.wrap (m : Int) = (m : Int) := by rw [IntKind.wrap_i64]; omega
  have hmc : m ≤ c := by omega
  have hmi : (m : Int) ≤ (c : Int) := by omega
  have hm0 : (0 : Int) ≤ (m : Int) := by omega
  go_still_tail 14, (by kernel_rfl)
  change wpList _ _ _ _ _ w.drew
  obtain ⟨w1, hw1⟩ : ∃ W, W = w.drew := ⟨_, rfl⟩
  have f1 : w1.frozen? ⟨g, i, none⟩ = false := by rw [hw1]; exact f0
  have c1 : w1.cell? ⟨g, i, none⟩ = some (.slice (some ⟨b, 0, none⟩) (m + 1) c) := by rw [hw1]; exact c0
  have D1 := Lib.hid (show w1.heap = w.heap by rw [hw1]; rfl)
  rw [← hw1] at P1 ⊢
  clear hw1 c0 f0
  go_wp2
  refine end0 rfl rfl ⟨_, rfl, P1.out, fun b' hb' => ?_, ?_⟩
  · rw [← D1.out]; exact Below.heap_setCell w1 ⟨g, i, none⟩ _ b' (fun e => hb' e)
  · rw [← D1.out]; exact World.size_setCell _ _ _
theorem implIsEmpty {wd w : World} {g i : Nat} {vs : List Value} {ls : List (List Int)} {l : List Int} (h : LanesAt wd w g vs ls) (hl : ls[i]? = some l) (hn : l.length ≤ 1000) :
    Calls Try.prog 95 #[.pointer (some ⟨g, i, none⟩)] w fun e w' => e = .returned (.bool (decide (l = []))) ∧ w' = w := by
  obtain ⟨v, hv⟩ : ∃ v, vs[i]? = some v := ⟨_, List.getElem?_eq_getElem (by have := h.len; have := (List.getElem?_eq_some_iff.1 hl).1; omega)⟩
  obtain ⟨A, c, rfl⟩ := own_form (h.own i v l hv hl)
  have c0 : w.cell? ⟨g, i, none⟩ = some (.slice A l.length c) := h.cell hv
  obtain ⟨m, hm⟩ : ∃ m, l.length = m := ⟨_, rfl⟩
  have E := Lib.hid (show decide (l = []) = ((m : Int) == 0) by rw [← hm]; cases l with
    | nil => rfl
    | cons a l => simp; omega)
  rw [hm] at c0 hn
  clear h hl hv hm
  go_enter Try.func95, Try.ntmps95
  go_wp2
  go_ret
  exact ⟨ret_bool (by rw [E.out]), rfl⟩
def sumZ : List Int → Int
  | [] => 0
  | a :: l => a + sumZ l
theorem sumZ_snoc : ∀ (l : List Int) (x : Int), sumZ (l ++ [x]) = sumZ l + x
  | [], x => by simp [sumZ]
  | a :: l, x => by
    have := sumZ_snoc l x
    show a + sumZ (l ++ [x]) = a + sumZ l + x
    omega
theorem sumZ_take {l : List Int} {i : Nat} {x : Int} (h : l[i]? = some x) : sumZ (l.take (i + 1)) = sumZ (l.take i) + x := by
  rw [List.take_add_one, h]
  exact sumZ_snoc _ _
theorem sumZ_bound : ∀ {l : List Int}, (∀ x ∈ l, 1 ≤ x ∧ x ≤ 400) → (l.length : Int) ≤ sumZ l ∧ sumZ l ≤ 400 * l.length
  | [], _ => by simp [sumZ]
  | a :: l, h => by
    have := sumZ_bound (l := l) (fun x hx => h x (by simp [hx]))
    have := h a (by simp)
    simp only [List.length_cons]
    show ((l.length + 1 : Nat) : Int) ≤ a + sumZ l ∧ a + sumZ l ≤ _
    omega
set_option maxHeartbeats 4000000 in
theorem implHasRoom (v : Value) (l : List Int) (n L : Int) (w : World) (h : SlInt w v l) (hl : ∀ x ∈ l, 1 ≤ x ∧ x ≤ 400) (hn : l.length ≤ 100) (n0 : 0 ≤ n) (n1 : n ≤ 400) :
    Calls Try.prog 92 #[.agg #[v], .int .i64 n, .int .i64 L] w fun e w' => e = .returned (.bool (decide (sumZ l + n ≤ L))) ∧ Below w.heap.size w w' := by
  obtain ⟨A, c, rfl⟩ := SlOf.form h
  obtain ⟨m, hm⟩ : ∃ m, l.length = m := ⟨_, rfl⟩
  have hb0 := Joins.below_alloc1 w (.cells #[.slice A m c] 116)
  have K0 := Blk.new w #[.slice A m c] 116
  have RL := SlOf.below h hb0
  rw [hm] at hn RL ⊢
  obtain ⟨W0, hW0⟩ : ∃ W, W = w.alloc (.cells #[.slice A m c] 116) := ⟨_, rfl⟩
  rw [← hW0] at hb0 K0 RL
  have HW0 := Lib.hid hW0
  have B := Lib.hid hb0
  have HRL := Lib.hid RL
  have HB := Lib.hid (fun (j : Nat) => sumZ_bound (l := l.take j) (fun x hx => hl x (List.mem_of_mem_take hx)))
  have HLM := Lib.hid hl
  have HM := Lib.hid hm
  have hs0 := hb0.size
  have c0 : W0.cell? ⟨w.heap.size, 0, none⟩ = some (.slice A m c) := K0.cell 0
  clear hW0 hb0 K0 h hm hl RL
  go_enter Try.func92, Try.ntmps92
  go_wp2
  rw [← HW0.out]
  go_loopw [1, 12] (fun s t wr => ∃ (j : Nat) (y : Int), j ≤ m ∧ 0 ≤ y ∧ y ≤ 400 * j ∧ Hid (y = sumZ (l.take j)) ∧ s = .int .i64 (n + y) ∧ t = .int .i64 (j : Int) ∧ Hid (Below W0.heap.size W0 wr)) (fun _ t _ => m - (intOf t).toNat)
  case atStart => exact ⟨0, 0, Nat.zero_le _, by omega, by omega, Lib.hid rfl, by simp, rfl, Lib.hid (Below.refl _ _)⟩
  case round =>
    obtain ⟨j, y, hj, y0, y1, hY, rfl, rfl, hb⟩ := hrel
    by_cases hjm : j < m
    rotate_left
    · obtain rfl : j = m := by omega
      have E := Lib.hid (show decide (sumZ l + n ≤ L) = decide (n + y ≤ L) by rw [hY.out, ← HM.out, List.take_length, Int.add_comm])
      go_wp2
      go_ret
      exact ⟨ret_bool E.out.symm, B.out.trans (hb.out.mono B.out.size)⟩
    obtain ⟨x, hx⟩ : ∃ x, l[j]? = some x := ⟨_, List.getElem?_eq_getElem (by have := HM.out; omega)⟩
    have hxb := HLM.out x (List.mem_of_getElem? hx)
    have hS := Lib.hid (show y + x = sumZ (l.take (j + 1)) by rw [sumZ_take hx, hY.out])
    rcases HRL.out.2 with ⟨he, _⟩ | ⟨g, o, c', e, hpos, hcap, hc⟩
    · rw [he] at hx; simp at hx
    injection e with hA' _ hcp
    subst hA' hcp
    have x0 := cell_onV (SlInt.cells hc j x hx) hb.out
    clear hx hc hpos hcap
    have hw1 : IntKind.i64.wrap (n + y + x) = n + y + x := by rw [IntKind.wrap_i64]; omega
    go_wp2
    go_roundw
    case rel => exact ⟨j + 1, y + x, by omega, by omega, by omega, hS, by rw [Int.add_assoc], by go_num, hb⟩
    case measure => simp [intOf]; omega
end Go.Proofs.Ytlddampjbmklkaa
