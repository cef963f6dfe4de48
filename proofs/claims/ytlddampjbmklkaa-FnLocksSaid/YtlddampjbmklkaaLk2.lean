
/- What LocksLaw rests on, part 2: contracts and mathematics. -/
import Derived.Test.YtlddampjbmklkaaLk0
import Derived.Test.YtlddampjbmklkaaLk1
import Derived.StillTailTactics
import Derived.BigQuiet
import Derived.OwnWalkIn
import Derived.Laws.AppendOwn
import Derived.RangeFuncNested
namespace Go.Proofs.Ytlddampjbmklkaa
open Go.RowKit
set_option maxRecDepth 100000
theorem grown_alloc (w : World) (o : Obj) (row : Option Nat) : w.grownBy (w.alloc o) row := grown_of_below ((Below.refl _ _).alloc (Nat.le_refl _) o) row
theorem Cursor.lt {w : World} {p : Nat} (h : Cursor w p) : p < w.heap.size := by
  obtain ⟨A, n, c, i, q, hc, _⟩ := h
  exact hc.lt
theorem grown_setNew {a w : World} {row : Option Nat} {b j : Nat} (h : a.grownBy w row) (hb : a.heap.size ≤ b) (u : Value) : a.grownBy (w.setCell ⟨b, j, none⟩ u) row :=
  ⟨h.os, h.tape, h.output, by simpa [World.setCell] using h.size, fun i hi hne => (Below.heap_setCell w ⟨b, j, none⟩ u i (by show i ≠ b; omega)).trans (h.block i hi hne)⟩
/-- A cursor stays one when only blocks are written that are younger than it. -/
theorem Cursor.grown {w w' : World} {p : Nat} {row : Option Nat} (h : Cursor w p) (hg : w.grownBy w' row) (hne : ∀ b, row = some b → p < b) : Cursor w' p := by
  have hp := h.lt
  obtain ⟨A, n, c, i, q, hc, h0, h1, hB⟩ := h
  refine ⟨A, n, c, i, q, (hg.block p hp (fun e => Nat.lt_irrefl _ (hne p e.symm))).trans hc, h0, h1, hB.1, fun hn => ?_⟩
  obtain ⟨g, o, rfl, hgp, hx⟩ := hB.2 hn
  refine ⟨g, o, rfl, hgp, fun k hk => ?_⟩
  obtain ⟨x, x0, x1, hcell⟩ := hx k hk
  exact ⟨x, x0, x1, hg.cell hcell (fun e => Nat.lt_asymm hgp (hne g e.symm))⟩
theorem grown_set1 (w : World) (b j : Nat) (u : Value) : w.grownBy (w.setCell ⟨b, j, none⟩ u) (some b) :=
  ⟨rfl, rfl, rfl, by simp [World.setCell], fun i _ hne => Below.heap_setCell w ⟨b, j, none⟩ u i (fun e => hne (by rw [e]))⟩
theorem Cursor.set {w : World} {p b : Nat} (h : Cursor w p) (hne : p < b) (j : Nat) (u : Value) : Cursor (w.setCell ⟨b, j, none⟩ u) p :=
  h.grown (grown_set1 w b j u) (fun k e => by rw [← Option.some.inj e]; exact hne)
theorem Cursor.drew {w : World} {p : Nat} (h : Cursor w p) : Cursor w.drew p := h
end Go.Proofs.Ytlddampjbmklkaa
namespace Go.Proofs.Ytlddampjbmklkaa
open Go.RowKit
/-- The value's own block lies from a up to b. -/
def RangeV (v : Value) (a b : Nat) : Prop := ∀ g, v.ownBlock = some g → a ≤ g ∧ g < b
theorem own_range {α : Type} {k : Nat} {cs : α → List Value} {t : TypeId} {w : World} {base : Nat} {v : Value} {l : List α} (h : OwnOf k cs t w base v l) : RangeV v base w.heap.size := fun g hg => World.ownsRow.lt h g hg
theorem RangeV.apart {v u : Value} {a b c d : Nat} (h : RangeV v a b) (h' : RangeV u c d) (hd : b ≤ c ∨ d ≤ a) : ApartV v u := fun g hg hg' => by have := h g hg; have := h' g hg'; omega
end Go.Proofs.Ytlddampjbmklkaa
namespace Go.Proofs.Ytlddampjbmklkaa
open Go.ChangeShapes Go.WideShapes Go.ChangeAt Go.Deep Go.RowKit
set_option maxRecDepth 100000
structure ChamberD where
  length : Int
  lanes : Int
  minutes : Int
@[reducible] def ChamberD.val (d : ChamberD) : Value := .agg #[.int .i64 d.length, .int .i64 d.lanes, .int .i64 d.minutes]
@[reducible] def ChamberD.cells (d : ChamberD) : List Value := [.int .i64 d.length, .int .i64 d.lanes, .int .i64 d.minutes]
theorem chamberLen (d : ChamberD) : d.cells.length = 3 := rfl
section
variable {H : Type} {enc : TypeId × Value → H} {w : World} {base : Nat} {spare : Nat → Bool} {held : Bool}
def ChamberD.wf (d : ChamberD) : Prop := (Lit.int .i64 d.length).wf = true ∧ (Lit.int .i64 d.lanes).wf = true ∧ (Lit.int .i64 d.minutes).wf = true
end
end Go.Proofs.Ytlddampjbmklkaa
namespace Go.Proofs.Ytlddampjbmklkaa
open Go.ChangeShapes Go.WideShapes Go.ChangeAt Go.Deep Go.RowKit
set_option maxRecDepth 100000
abbrev IntD := Int
def IntD.cells (x : IntD) : List Value := [.int .i64 x]
def intCells : Int → List Value := fun x => [.int .i64 x]
theorem intLen (x : Int) : (intCells x).length = 1 := rfl
theorem int_one (x : Int) : ∀ v ∈ intCells x, v.oneCell' = true := fun v hv => by simp [intCells] at hv; rw [hv]; rfl
def SlInt : World → Value → List Int → Prop := SlOf 1 intCells
def OwnInt : World → Nat → Value → List Int → Prop := OwnOf 1 intCells 3
def NewInt : List Int → World → Ending → World → Prop := NewOf 1 intCells 3
theorem SlInt.at {w : World} {v : Value} {l : List Int} (h : SlInt w v l) : ∃ A c, v = .slice A l.length c := SlOf.form h
theorem SlInt.below {w w' : World} {v : Value} {l : List Int} (h : SlInt w v l) (hb : Below w.heap.size w w') : SlInt w' v l := SlOf.below h hb
theorem OwnInt.sl {w : World} {base : Nat} {v : Value} {l : List Int} (h : OwnInt w base v l) (hl : l.length ≤ 1000000000) : SlInt w v l := own_sl intLen h hl
theorem SlInt.cells {w : World} {l : List Int} {g o : Nat} (hc : ∀ i x, l[i]? = some x → ∀ j u, (intCells x)[j]? = some u → w.cell? ⟨g, o + i * 1 + j, none⟩ = some u) (i : Nat) (x : Int) (hx : l[i]? = some x) :
    w.cell? ⟨g, o + i, none⟩ = some (.int .i64 x) := by
  have h := hc i x hx 0 _ rfl
  simpa using h
theorem info_int : (Try.prog.info? 3).map (fun i => (i.zero, i.size, i.bytes)) = some (some (.int .i64 0), 1, 8) := by kernel_rfl
theorem info1_int : ∃ i0, Try.prog.info? 3 = some i0 ∧ i0.zero = some (.int .i64 0) ∧ i0.size = 1 ∧ i0.bytes = 8 := by
  have h := info_int
  cases hi : Try.prog.info? 3 with
  | none => rw [hi] at h; simp at h
  | some i0 => rw [hi] at h; simp at h; exact ⟨i0, rfl, h.1, h.2.1, h.2.2⟩
theorem make_ints (n : Nat) (hn : n ≤ 1000000000) (W : World) :
    (Instr.makeSlice 33 (.int .i64 (n : Int)) (.int .i64 (n : Int))).run Try.prog W = .ok (.slice (some ⟨W.heap.size, 0, none⟩) n n) (W.alloc (.cells (madeCells #[.int .i64 0] (n * 1)) 3)) := by
  obtain ⟨i0, hi, hz0, hz1, hz2⟩ := info1_int
  have hr := run_make (P := Try.prog) W 33 3 i0 _ Try.underlying33 hi hz0 .i64 .i64 n n (by omega) (Int.le_refl _) (by rw [hz2]; omega) (by omega)
  simp only [Int.toNat_natCast, hz1] at hr
  exact hr
section
variable {H : Type} {enc : TypeId × Value → H} {w : World} {base : Nat} {spare : Nat → Bool} {held : Bool}
def IntD.wf (x : IntD) : Prop := (Lit.int .i64 x).wf = true
theorem dec_int (n : Nat) (cs : List Value) (y : DataW H × List MemPlace) (h : DataW.trod enc Try.prog w base spare held n 3 cs = some y) : ∃ x : Int, cs = intCells x ∧ IntD.wf x := by
  obtain ⟨a, ha, _, wa⟩ := DataW.trod_int Try.underlying3 h
  exact ⟨a, ha, wa⟩
theorem open_ints {fuel : Nat} {v : Value} {x : DataW H × List MemPlace} (h : DataW.trod enc Try.prog w base (fun _ => true) held fuel 33 [v] = some x) :
    ∃ A c l, v = .slice A l.length c ∧ l.length ≤ maxLen ∧ (l.length ≤ 1000000000 → SlInt w (.slice A l.length c) l) ∧ ∀ d ∈ l, IntD.wf d :=
  open_elems intCells 1 IntD.wf Try.underlying33 (by kernel_rfl) intLen (by omega) dec_int h
end
end Go.Proofs.Ytlddampjbmklkaa
namespace Go.Proofs.Ytlddampjbmklkaa
open Go.RowKit
theorem run_append_own_full {P : Program} (w : World) (base : Nat) (t ty e : TypeId) (i : TypeInfo) (z : Value) (size bytes : Nat) (ht : P.underlying t = some (.slice e)) (hi : P.info? e = some i) (hz : i.zero = some z)
    (hsize : i.size = size) (hby : i.bytes = bytes) (hzs : z.cells.size = size) (hsz : 0 < size)
    (v : Value) (n : Nat) (xs : List Value) (hown : w.ownsRow base e size v n xs)
    (a : Addr) (m c : Nat) (news : List Value) (hl : news.length = m * size) (hnews : ∀ j u, news[j]? = some u → w.cell? (a.add j) = some u) (h1 : ∀ u ∈ news, u.oneCell' = true)
    (h63 : n + m ≤ maxLen) (hbytes : (n + m) * bytes ≤ 140737488355328) (hbase : base ≤ w.heap.size) :
    ∃ v' w', (Builtin.append_ #[t, t] ty #[v, .slice (some a) m c]).run P w = .ok v' w' ∧ w'.ownsRow base e size v' (n + m) (xs ++ news) ∧ w.grownBy w' v.ownBlock ∧
      (v' = .slice none 0 0 ↔ v = .slice none 0 0 ∧ m = 0) ∧ ∀ g cap, v = .slice (some ⟨g, 0, none⟩) n cap → cap < n + m → w.grownBy w' none := by
  obtain ⟨v', w', hr, h2, h3, h4⟩ := run_append_own (P := P) w base t ty e i z size bytes ht hi hz hsize hby hzs hsz v n xs hown a m c news hl hnews h1 h63 hbytes hbase
  refine ⟨v', w', hr, h2, h3, h4, ?_⟩
  intro g cap ev hlt
  subst ev
  subst hsize
  subst hby
  have hsmall : n + m ≤ 9223372036854775807 := by simp only [maxLen] at h63; omega
  have hr2 := run_append_grow (P := P) w t ty e i z ht hi hz ⟨g, 0, none⟩ n cap xs hown.1 (hown.cells (g := g) rfl) a m c news hl hnews hlt (by omega) (growslice_fits (by omega) hbytes)
  rw [hr] at hr2
  injection hr2 with e1 e2
  subst e2
  exact ⟨rfl, rfl, rfl, by simp, fun k hk _ => heap_alloc_old w.drew _ hk⟩
end Go.Proofs.Ytlddampjbmklkaa
namespace Go.Proofs.Ytlddampjbmklkaa
open Go.ChangeShapes Go.WideShapes Go.ChangeAt Go.Deep Go.RowKit
set_option maxRecDepth 100000
structure ShipD where
  name : ByteArray
  length : Int
  draught : Int
  line : Int
  tugs : Int
  slow : Bool
@[reducible] def ShipD.val (d : ShipD) : Value := .agg #[.string d.name, .int .i64 d.length, .int .i64 d.draught, .int .i64 d.line, .int .i64 d.tugs, .bool d.slow]
@[reducible] def ShipD.cells (d : ShipD) : List Value := [.string d.name, .int .i64 d.length, .int .i64 d.draught, .int .i64 d.line, .int .i64 d.tugs, .bool d.slow]
theorem shipLen (d : ShipD) : d.cells.length = 6 := rfl
theorem ship_one (x : ShipD) : ∀ v ∈ x.cells, v.oneCell' = true := fun v hv => by simp at hv; rcases hv with rfl | rfl | rfl | rfl | rfl | rfl <;> rfl
def SlShip : World → Value → List ShipD → Prop := SlOf 6 ShipD.cells
def OwnShip : World → Nat → Value → List ShipD → Prop := OwnOf 6 ShipD.cells 36
theorem SlShip.at {w : World} {v : Value} {l : List ShipD} (h : SlShip w v l) : ∃ A c, v = .slice A l.length c := SlOf.form h
theorem SlShip.below {w w' : World} {v : Value} {l : List ShipD} (h : SlShip w v l) (hb : Below w.heap.size w w') : SlShip w' v l := SlOf.below h hb
theorem OwnShip.sl {w : World} {base : Nat} {v : Value} {l : List ShipD} (h : OwnShip w base v l) (hl : l.length ≤ 1000000000) : SlShip w v l := own_sl shipLen h hl
theorem SlShip.cells {w : World} {l : List ShipD} {g o : Nat} (hc : ∀ i x, l[i]? = some x → ∀ j u, (ShipD.cells x)[j]? = some u → w.cell? ⟨g, o + i * 6 + j, none⟩ = some u) (i : Nat) (x : ShipD) (hx : l[i]? = some x) :
    w.cell? ⟨g, o + i * 6, none⟩ = some (.string x.name) ∧ w.cell? ⟨g, o + i * 6 + 1, none⟩ = some (.int .i64 x.length) ∧ w.cell? ⟨g, o + i * 6 + 2, none⟩ = some (.int .i64 x.draught) ∧ w.cell? ⟨g, o + i * 6 + 3, none⟩ = some (.int .i64 x.line) ∧ w.cell? ⟨g, o + i * 6 + 4, none⟩ = some (.int .i64 x.tugs) ∧ w.cell? ⟨g, o + i * 6 + 5, none⟩ = some (.bool x.slow) :=
  ⟨hc i x hx 0 _ rfl, hc i x hx 1 _ rfl, hc i x hx 2 _ rfl, hc i x hx 3 _ rfl, hc i x hx 4 _ rfl, hc i x hx 5 _ rfl⟩
theorem info_ship : (Try.prog.info? 36).map (fun i => (i.zero, i.size, i.bytes)) = some (some (.agg #[.string ⟨#[]⟩, .int .i64 0, .int .i64 0, .int .i64 0, .int .i64 0, .bool false]), 6, 56) := by kernel_rfl
section
variable {H : Type} {enc : TypeId × Value → H} {w : World} {base : Nat} {spare : Nat → Bool} {held : Bool}
def ShipD.wf (d : ShipD) : Prop := d.name.size ≤ maxLen ∧ (Lit.int .i64 d.length).wf = true ∧ (Lit.int .i64 d.draught).wf = true ∧ (Lit.int .i64 d.line).wf = true ∧ (Lit.int .i64 d.tugs).wf = true
end
end Go.Proofs.Ytlddampjbmklkaa
namespace Go.Proofs.Ytlddampjbmklkaa
open Go.RowKit
def ltI (r : Int) : Bool := decide (97 ≤ r ∧ r ≤ 122)
def nmIn (n lo hi : Int) : Bool := decide (lo ≤ n ∧ n ≤ hi)
def nmAt (k : Nat) (r : Int) : Bool := ltI r || (decide (k ≠ 0) && dgI r)
def preB : List UInt8 → Bool
  | [] => true
  | c :: t => ltI (c.toNat : Int) && t.all fun d => ltI (d.toNat : Int) || dgI (d.toNat : Int)
def nameB (s : ByteArray) : Bool := preB s.data.toList && decide (1 ≤ s.size ∧ s.size ≤ 8)
theorem ltI_false {r : Int} (h : r < 97 ∨ 122 < r) : ltI r = false := by
  unfold ltI; exact decide_eq_false (by omega)
theorem ltI_true {r : Int} (h : 97 ≤ r) (h' : r ≤ 122) : ltI r = true := by
  unfold ltI; exact decide_eq_true ⟨h, h'⟩
theorem preB_snoc (l : List UInt8) (c : UInt8) : preB (l ++ [c]) = (preB l && nmAt l.length (c.toNat : Int)) := by
  cases l with
  | nil => simp [preB, nmAt]
  | cons a t => simp [preB, nmAt, List.all_append, Bool.and_assoc]
theorem preB_append (l r : List UInt8) (h : preB l = false) : preB (l ++ r) = false := by
  cases l with
  | nil => simp [preB] at h
  | cons a t =>
    simp only [List.cons_append, preB, List.all_append, ← Bool.and_assoc] at h ⊢
    rw [h]; rfl
theorem take_len (s : ByteArray) (k : Nat) (h : k ≤ s.size) : (s.data.toList.take k).length = k := by
  rw [List.length_take]; have : s.data.toList.length = s.size := rfl; omega
theorem nm_step (s : ByteArray) (k : Nat) (h : k < s.size) (hp : preB (s.data.toList.take k) = true) : preB (s.data.toList.take (k + 1)) = nmAt k (s[k].toNat : Int) := by
  rw [take_snoc s k h, preB_snoc, hp, take_len s k (by omega), Bool.true_and]
theorem nm_not (s : ByteArray) (k : Nat) (h : k < s.size) (hp : nmAt k (s[k].toNat : Int) = false) : nameB s = false := by
  have h1 : preB (s.data.toList.take (k + 1)) = false := by
    rw [take_snoc s k h, preB_snoc, take_len s k (by omega), hp, Bool.and_false]
  have h2 := preB_append _ (s.data.toList.drop (k + 1)) h1
  rw [List.take_append_drop] at h2
  unfold nameB; rw [h2]; rfl
theorem nm_end (s : ByteArray) (k : Nat) (h : s.size ≤ k) (hp : preB (s.data.toList.take k) = true) : nameB s = decide (1 ≤ s.size ∧ s.size ≤ 8) := by
  rw [take_all s k h] at hp
  unfold nameB; rw [hp]; rfl
theorem nm_long (s : ByteArray) (h : 8 < s.size) : nameB s = false := by
  unfold nameB; rw [decide_eq_false (by omega), Bool.and_false]
theorem nm_none (s : ByteArray) (h : s.size = 0) : nameB s = false := by
  unfold nameB; rw [decide_eq_false (by omega), Bool.and_false]
theorem nmAt_letter (k : Nat) {r : Int} (h : 97 ≤ r) (h' : r ≤ 122) : nmAt k r = true := by
  unfold nmAt; rw [ltI_true h h']; rfl
theorem nmAt_zero {r : Int} (h : r < 97 ∨ 122 < r) : nmAt 0 r = false := by
  unfold nmAt; rw [ltI_false h]; rfl
theorem nmAt_digit {k : Nat} (hk : k ≠ 0) {r : Int} (h : 48 ≤ r) (h' : r ≤ 57) : nmAt k r = true := by
  unfold nmAt; rw [dgI_true h h', decide_eq_true hk]; simp
theorem nmAt_other (k : Nat) {r : Int} (h : r < 97 ∨ 122 < r) (h' : r < 48 ∨ 57 < r) : nmAt k r = false := by
  unfold nmAt; rw [ltI_false h, dgI_false h']; simp
theorem isLetter_any (r : Int) (w : World) :
    Calls Try.prog 89 #[.int .i32 r] w fun e w' => e = .returned (.bool (ltI r)) ∧ w = w' := by
  by_cases h1 : 97 ≤ r
  · by_cases h2 : r ≤ 122
    · have hn := Lib.hid (ltI_true h1 h2)
      go_enter Try.func89, Try.ntmps89
      go_wp2
      go_ret
      exact ⟨ret_bool hn.out.symm, rfl⟩
    · have hn := Lib.hid (ltI_false (.inr (by omega : 122 < r)))
      go_enter Try.func89, Try.ntmps89
      go_wp2
      go_ret
      exact ⟨ret_bool hn.out.symm, rfl⟩
  · have hn := Lib.hid (ltI_false (.inl (by omega : r < 97)))
    go_enter Try.func89, Try.ntmps89
    go_wp2
    go_ret
    exact ⟨ret_bool hn.out.symm, rfl⟩
theorem rune_nm (s : ByteArray) (pos : Nat) (h : pos < s.size) (hr : nmAt pos ((Utf8.decode s pos).1 : Int) = true) : nmAt pos (s[pos].toNat : Int) = true ∧ (Utf8.decode s pos).2 = 1 := by
  have hr' := hr
  have hlow : (Utf8.decode s pos).1 < 128 := by
    unfold nmAt ltI dgI at hr
    simp only [Bool.or_eq_true, Bool.and_eq_true, decide_eq_true_eq] at hr
    omega
  obtain ⟨e, e'⟩ := rune_low s pos h hlow
  rw [e]; exact ⟨hr', e'⟩
theorem rune_not_nm (s : ByteArray) (pos : Nat) (h : pos < s.size) (hr : nmAt pos ((Utf8.decode s pos).1 : Int) = false) : nmAt pos (s[pos].toNat : Int) = false := by
  by_cases ha : (s[pos]'h).toNat < 128
  · rw [decode_ascii s pos h ha] at hr; exact hr
  · exact nmAt_other pos (.inr (by omega)) (.inr (by omega))
set_option maxHeartbeats 1000000 in
theorem implIsName (s : ByteArray) (w : World) (hs : s.size ≤ maxLen) :
    Calls Try.prog 82 #[.string s] w fun e w' => e = .returned (.bool (nameB s)) ∧ Below w.heap.size w w' := by
  unfold maxLen at hs
  by_cases h0 : s.size = 0
  · have hn := Lib.hid (nm_none s h0)
    have he : s.toList = [] := by rw [ByteArray.toList_eq]; exact List.eq_nil_of_length_eq_zero h0
    clear h0
    go_enter Try.func82, Try.ntmps82
    go_wp2
    go_ret
    exact ⟨ret_bool hn.out.symm, Below.refl _ _⟩
  · have he : s.toList.isEmpty = false := by
      have h := notEmpty s
      rw [decide_eq_true (by omega)] at h
      simpa using h
    have he2 : (s.toList = []) = False := by
      cases h : s.toList with
      | nil => rw [h] at he; simp at he
      | cons a t => simp
    by_cases h8 : 8 < s.size
    · have hn := Lib.hid (nm_long s h8)
      go_enter Try.func82, Try.ntmps82
      go_wp2
      go_ret
      exact ⟨ret_bool hn.out.symm, Below.refl _ _⟩
    · go_enter Try.func82, Try.ntmps82
      go_wp2
      go_loopw [3, 4] (fun _ _ w' => ∃ pos : Nat, w' = w.iter s pos ∧ pos ≤ s.size ∧ Hid (preB (s.data.toList.take pos) = true)) (fun _ _ w' => s.size - w'.iterPos w.heap.size)
      case atStart => exact ⟨0, rfl, Nat.zero_le _, rfl⟩
      case round =>
        obtain ⟨pos, rfl, hk, hd⟩ := hrel
        by_cases hp : pos < s.size
        · have hnx : ∀ ty, (Instr.next (.pointer (some ⟨w.heap.size, 0, none⟩)) true ty).run Try.prog (w.iter s pos) = _ := fun ty => run_next_any w s pos ty hp
          cases hc : nmAt pos ((Utf8.decode s pos).1 : Int)
          · have hn := Lib.hid (nm_not s pos hp (rune_not_nm s pos hp hc))
            have hl : ltI ((Utf8.decode s pos).1 : Int) = false := by
              unfold nmAt at hc; exact (Bool.or_eq_false_iff.1 hc).1
            by_cases hz0 : pos = 0
            · have hz : ((pos : Int) == 0) = true := by simpa using hz0
              clear hc hz0
              go_wp2_with (go_at_call 89; refine (isLetter_any _ _).mono ?_; rintro e w' ⟨rfl, rfl⟩)
              go_ret
              exact ⟨ret_bool hn.out.symm, (Below.refl _ _).alloc (Nat.le_refl _) _⟩
            · have hz : ((pos : Int) == 0) = false := by simpa using hz0
              have hdg : dgI ((Utf8.decode s pos).1 : Int) = false := by
                unfold nmAt at hc
                have := (Bool.or_eq_false_iff.1 hc).2
                rw [decide_eq_true hz0] at this
                simpa using this
              clear hc hz0
              go_wp2_with (first
                | (go_at_call 89; refine (isLetter_any _ _).mono ?_; rintro e w' ⟨rfl, rfl⟩)
                | (go_at_call 90; refine (isDigit_any _ _).mono ?_; rintro e w' ⟨rfl, rfl⟩))
              go_ret
              exact ⟨ret_bool hn.out.symm, (Below.refl _ _).alloc (Nat.le_refl _) _⟩
          · have hw := Lib.hid (rune_nm s pos hp hc)
            have hy := Lib.hid ((nm_step s pos hp hd.out).trans hw.out.1)
            cases hl : ltI ((Utf8.decode s pos).1 : Int)
            · have hq := hc
              unfold nmAt at hq
              rw [hl] at hq
              simp only [Bool.false_or, Bool.and_eq_true, decide_eq_true_eq] at hq
              obtain ⟨hz0, hdg⟩ := hq
              have hz : ((pos : Int) == 0) = false := by simpa using hz0
              clear hc hz0
              go_wp2_with (first
                | (go_at_call 89; refine (isLetter_any _ _).mono ?_; rintro e w' ⟨rfl, rfl⟩)
                | (go_at_call 90; refine (isDigit_any _ _).mono ?_; rintro e w' ⟨rfl, rfl⟩))
              go_roundw
              case rel =>
                rw [hw.out.2]
                exact ⟨pos + 1, rfl, by omega, hy⟩
              case measure => have := hw.out.2; simp; omega
            · clear hc
              go_wp2_with (go_at_call 89; refine (isLetter_any _ _).mono ?_; rintro e w' ⟨rfl, rfl⟩)
              go_roundw
              case rel =>
                rw [hw.out.2]
                exact ⟨pos + 1, rfl, by omega, hy⟩
              case measure => have := hw.out.2; simp; omega
        · have hnx : ∀ ty, (Instr.next (.pointer (some ⟨w.heap.size, 0, none⟩)) true ty).run Try.prog (w.iter s pos) = _ := fun ty => run_next_end w s pos ty hp
          have hn := Lib.hid ((nm_end s pos (by omega) hd.out).trans (decide_eq_true (by omega)))
          go_wp2
          go_ret
          exact ⟨ret_bool hn.out.symm, (Below.refl _ _).alloc (Nat.le_refl _) _⟩
end Go.Proofs.Ytlddampjbmklkaa
namespace Go.Proofs.Ytlddampjbmklkaa
open Go.RowKit
set_option maxRecDepth 100000
theorem isIndex_any (i : Int) (n : Nat) (w : World) : Calls Try.prog 73 #[.int .i64 i, .int .i64 (n : Int)] w fun e w' => e = .returned (.bool (inB i 0 ((n : Int) - 1))) ∧ w = w' := by
  by_cases h1 : 0 ≤ i
  · by_cases h2 : i < (n : Int)
    · have H := Lib.hid (inB_mk h1 (show i ≤ (n : Int) - 1 by omega))
      go_enter Try.func73, Try.ntmps73
      go_wp2
      go_ret
      exact ⟨ret_bool H.out.symm, rfl⟩
    · have H := Lib.hid (inB_no (x := i) (lo := 0) (hi := (n : Int) - 1) (.inr (by omega)))
      have h3 : decide (i < (n : Int)) = false := decide_eq_false h2
      go_enter Try.func73, Try.ntmps73
      go_wp2
      go_ret
      exact ⟨ret_bool H.out.symm, rfl⟩
  · have H := Lib.hid (inB_no (x := i) (lo := 0) (hi := (n : Int) - 1) (.inl (by omega)))
    have h3 : decide (0 ≤ i) = false := decide_eq_false h1
    go_enter Try.func73, Try.ntmps73
    go_wp2
    go_ret
    exact ⟨ret_bool H.out.symm, rfl⟩
end Go.Proofs.Ytlddampjbmklkaa
namespace Go.Proofs.Ytlddampjbmklkaa
open Go.RowKit
set_option maxRecDepth 100000
theorem isMinute_any (t : Int) (w : World) : Calls Try.prog 43 #[.int .i64 t] w fun e w' => e = .returned (.bool (inB t 0 2880)) ∧ w = w' := by
  by_cases h1 : 0 ≤ t
  · by_cases h2 : t ≤ 2880
    · have H := Lib.hid (inB_mk h1 h2)
      go_enter Try.func43, Try.ntmps43
      go_wp2
      go_ret
      exact ⟨ret_bool H.out.symm, rfl⟩
    · have H := Lib.hid (inB_no (x := t) (lo := 0) (hi := 2880) (.inr (by omega)))
      have h3 : decide (t ≤ 2880) = false := decide_eq_false h2
      go_enter Try.func43, Try.ntmps43
      go_wp2
      go_ret
      exact ⟨ret_bool H.out.symm, rfl⟩
  · have H := Lib.hid (inB_no (x := t) (lo := 0) (hi := 2880) (.inl (by omega)))
    have h3 : decide (0 ≤ t) = false := decide_eq_false h1
    go_enter Try.func43, Try.ntmps43
    go_wp2
    go_ret
    exact ⟨ret_bool H.out.symm, rfl⟩
end Go.Proofs.Ytlddampjbmklkaa
