
/- What ExactSailRoute and ExactFirstSail rests on, part 7: contracts and mathematics. -/
import Derived.Test.YtooeikimoheecaaGreatSf6
import Derived.Test.YtooeikimoheecaaGreatSf1
import Derived.StillTailTactics
import Derived.Test.YtooeikimoheecaaGreatSf4
import Derived.Test.YtooeikimoheecaaGreatSf0
import Derived.Test.YtooeikimoheecaaGreatSf5
import Derived.Deep.RegionHeld3
namespace Go.Proofs.YtooeikimoheecaaGreat
open Go.RowKit
set_option maxRecDepth 100000
def tideB (m : Int) (l : List PartD) : Bool := decide (-1000 ≤ m ∧ m ≤ 1000 ∧ l.length ≤ 4) && l.all partB
theorem tideB_true {m : Int} {l : List PartD} (h : tideB m l = true) : -1000 ≤ m ∧ m ≤ 1000 ∧ l.length ≤ 4 ∧ ∀ x ∈ l, partB x = true := by
  unfold tideB at h
  rw [Bool.and_eq_true, List.all_eq_true] at h
  have := of_decide_eq_true h.1
  exact ⟨this.1, this.2.1, this.2.2, h.2⟩
theorem tideB_mk {m : Int} {l : List PartD} (h : -1000 ≤ m ∧ m ≤ 1000 ∧ l.length ≤ 4 ∧ ∀ x ∈ l, partB x = true) : tideB m l = true := by
  unfold tideB
  rw [Bool.and_eq_true, List.all_eq_true]
  exact ⟨decide_eq_true ⟨h.1, h.2.1, h.2.2.1⟩, h.2.2.2⟩
theorem tideB_no {m : Int} {l : List PartD} (h : ¬ (-1000 ≤ m ∧ m ≤ 1000 ∧ l.length ≤ 4)) : tideB m l = false := by
  unfold tideB
  rw [decide_eq_false h]; rfl
theorem tideB_bad {m : Int} {l : List PartD} (x : PartD) (i : Nat) (hx : l[i]? = some x) (h : partB x = false) : tideB m l = false := by
  cases e : tideB m l with
  | false => rfl
  | true => rw [(tideB_true e).2.2.2 x (List.mem_of_getElem? hx)] at h; cases h
theorem bcell {W w1 : World} (hb : Below W.heap.size W w1) : (∀ b o, b < W.heap.size → w1.cell? ⟨b, o, none⟩ = W.cell? ⟨b, o, none⟩) ∧ (∀ b o, b < W.heap.size → w1.frozen? ⟨b, o, none⟩ = W.frozen? ⟨b, o, none⟩) :=
  ⟨fun b o h => hb.cell (p := ⟨b, o, none⟩) h, fun b o h => hb.frozen (p := ⟨b, o, none⟩) h⟩
theorem SlP.at {w : World} {v : Value} {l : List PartD} (h : SlP w v l) : ∃ A c, v = .slice A l.length c := SlOf.form h
theorem SlP.below {w w' : World} {v : Value} {l : List PartD} (h : SlP w v l) (hb : Below w.heap.size w w') : SlP w' v l := SlOf.below h hb
theorem OwnP.sl {w : World} {base : Nat} {v : Value} {l : List PartD} (h : OwnP w base v l) (hl : l.length ≤ 1000000000) : SlP w v l := own_sl partLen h hl
theorem set_under {w : World} {base : Nat} {v : Value} {l : List PartD} (h : OwnP w base v l) {a : Addr} (ha : a.block < base) (u : Value) : OwnP (w.setCell a u) base v l := by
  refine World.ownsRow.kept h (row := some a.block) ⟨rfl, rfl, rfl, by simp [World.setCell], fun i hi hne => Below.heap_setCell w _ u i (by rintro rfl; exact hne rfl)⟩ ?_
  cases hv : v.ownBlock with
  | none => exact .inl rfl
  | some g =>
    right
    intro e
    have := (World.ownsRow.lt h g hv).1
    have := Option.some.inj e
    omega
theorem szTide_any (m : Int) (A : Option Addr) (n c : Nat) (w : World) (hn : n ≤ 9223372036854775807) (lim : Int) (h0 : 0 ≤ lim) (h1 : lim ≤ 1048576) :
    Calls Tryz.prog 30 #[.agg #[.int .i64 m, .slice A n c], .int .i64 lim] w fun e w' => e = .returned (.int .i64 (if lim < (n : Int) then -1 else lim - (n : Int))) ∧ Below w.heap.size w w' := by
  have C := fun W => Lib.hid (szPartS_any A n c W hn lim h0 h1)
  by_cases hlt : lim < (n : Int)
  · rw [if_pos hlt] at C ⊢
    go_enter Tryz.func30, Tryz.ntmps30
    go_wp2_with fail
    refine (C _).out.mono ?_
    rintro e w1 ⟨rfl, rfl⟩
    go_wp2
    go_ret
    exact ⟨rfl, Joins.below_alloc1 _ _⟩
  · rw [if_neg hlt] at C ⊢
    go_enter Tryz.func30, Tryz.ntmps30
    go_wp2_with fail
    refine (C _).out.mono ?_
    rintro e w1 ⟨rfl, rfl⟩
    go_wp2
    go_ret
    exact ⟨rfl, Joins.below_alloc1 _ _⟩
theorem eqTide_same (m : Int) (va vb : Value) (l : List PartD) (w : World) (ha : SlP w va l) (hb : SlP w vb l) :
    Calls Tryz.prog 42 #[.agg #[.int .i64 m, va], .agg #[.int .i64 m, vb]] w fun e w' => e = .returned (.bool true) ∧ Below w.heap.size w w' := by
  have HA := Lib.hid ha
  have HB := Lib.hid hb
  obtain ⟨A, c, rfl⟩ := ha.at
  obtain ⟨A', c', rfl⟩ := hb.at
  clear ha hb
  go_enter Tryz.func42, Tryz.ntmps42
  go_wp2_with fail
  have hb0 := Joins.below_alloc2 w (.cells #[.int .i64 m, .slice A l.length c] 41) (.cells #[.int .i64 m, .slice A' l.length c'] 41)
  refine (eqPartS_same _ _ l _ (HA.out.below hb0) (HB.out.below hb0)).mono ?_
  rintro e w1 ⟨rfl, hb⟩
  go_wp2
  go_ret
  exact ⟨rfl, hb0.trans (hb.mono hb0.size)⟩
end Go.Proofs.YtooeikimoheecaaGreat
namespace Go.Proofs.YtooeikimoheecaaGreat
open Go.ChangeShapes Go.WideShapes Go.ChangeAt Go.Deep Go.RowKit
set_option maxRecDepth 100000
set_option maxHeartbeats 1000000 in
theorem markPartS_any (v : Value) (l : List PartD) (k : Int) (w : World) (h : SlP w v l) (hfz : ∀ g, v.ownBlock = some g → ∀ j, w.frozen? ⟨g, j, none⟩ = false) (h0 : 0 ≤ k) (h1 : k ≤ 100000000) (h2 : l.length ≤ 10000000) :
    Calls Tryz.prog 90 #[v, .int .i64 k] w fun e w' => e = .returned (.int .i64 (k + (l.length : Int) * 3)) ∧ Marked w' v (l.length * 3) k ∧ w.grownBy w' v.ownBlock := by
  obtain ⟨hl, h⟩ := h
  rcases h with ⟨rfl, A, c, rfl⟩ | ⟨g, o, c, rfl, hp, hcap, hc⟩
  · go_enter Tryz.func90, Tryz.ntmps90
    go_wp2
    refine wp_loop_rounds 1 ?_
    rw [rounds_succ]
    go_wp2
    go_ret
    exact ⟨ret_int (by simp), .inl (by simp), World.grownBy.refl _ _⟩
  · have hs : MarkRow w g o (l.length * 3) k (0 * 3) w := MarkRow.start (ints_of (fun x : PartD => [x.amp, x.per, x.pha]) (fun x => rfl) (by omega) partLen hc) (fun j => hfz g rfl j)
    have HS := Lib.hid hs
    clear hs hc hfz
    go_enter Tryz.func90, Tryz.ntmps90
    go_wp2
    go_loopw [1, 5] (fun q i wr => ∃ j : Nat, j ≤ l.length ∧ i = .int .i64 j ∧ q = .int .i64 (k + (j : Int) * 3) ∧ Hid (MarkRow w g o (l.length * 3) k (j * 3) wr)) (fun _ i _ => l.length - (intOf i).toNat)
    case atStart => exact ⟨0, Nat.zero_le _, rfl, by simp, HS⟩
    case round =>
      obtain ⟨j, hj, rfl, rfl, hM⟩ := hrel
      by_cases hlt : j < l.length
      · have fz := hM.out.2.2.2
        obtain ⟨x0, c0⟩ := hM.out.read (j * 3 + 0) (by omega) (by omega) (o + j * 3) (by omega)
        have f0 := fz (o + j * 3)
        have M0 := hM.out.next' (by omega) (o + j * 3) (by omega) (k + (j : Int) * 3) (by omega) (j * 3 + 1) rfl
        obtain ⟨x1, c1⟩ := hM.out.read (j * 3 + 1) (by omega) (by omega) (o + j * 3 + 1) (by omega)
        have f1 := fz (o + j * 3 + 1)
        have M1 := M0.next' (by omega) (o + j * 3 + 1) (by omega) (k + (j : Int) * 3 + 1) (by omega) (j * 3 + 2) rfl
        obtain ⟨x2, c2⟩ := hM.out.read (j * 3 + 2) (by omega) (by omega) (o + j * 3 + 2) (by omega)
        have f2 := fz (o + j * 3 + 2)
        have M2 := M1.next' (by omega) (o + j * 3 + 2) (by omega) (k + (j : Int) * 3 + 1 + 1) (by omega) (j * 3 + 3) rfl
        have HM := Lib.hid M2
        clear fz M0 M1 M2
        go_wp2
        go_roundw
        case rel =>
          refine ⟨j + 1, by omega, by go_num, ?_, ?_⟩
          · congr 1; omega
          · rw [show (j + 1) * 3 = j * 3 + 3 by omega]; exact HM
        case measure => simp [intOf]; omega
      · go_wp2
        go_ret
        obtain rfl : j = l.length := by omega
        exact ⟨rfl, .inr ⟨g, o, l.length, c, rfl, hM.out.2.1⟩, hM.out.1⟩
end Go.Proofs.YtooeikimoheecaaGreat
namespace Go.Proofs.YtooeikimoheecaaGreat
open Go.RowKit
set_option maxRecDepth 100000
/-- An element of a list of ints over memory of its own, whatever its length. -/
theorem own_int_at {w : World} {base : Nat} {v : Value} {l : List Int} {k : Nat} {x : Int} (h : OwnInt w base v l) (hx : l[k]? = some x) : ∃ g c, v = .slice (some ⟨g, 0, none⟩) l.length c ∧ w.cell? ⟨g, k, none⟩ = some (.int .i64 x) := by
  have hk : k < l.length := (List.getElem?_eq_some_iff.1 hx).1
  have hf : l.flatMap intCells = l.map (fun x => Value.int .i64 x) := by
    clear h hx hk
    induction l with
    | nil => rfl
    | cons x l ih => simp [intCells, ih]
  have h' := h
  rcases h.2 with ⟨_, h0⟩ | ⟨g, cap, cur, rfl, rest⟩
  · omega
  · refine ⟨g, cap, rfl, ?_⟩
    have := World.ownsRow.cells h' (g := g) rfl k (.int .i64 x) (by rw [hf]; simp [hx])
    have e : (⟨g, 0, none⟩ : Addr).add k = ⟨g, k, none⟩ := by unfold Addr.add; split <;> simp_all
    rw [e] at this
    exact this
/-- What a search for starts leaves. -/
def SailPost (x : Option (List Int)) (w : World) (e : Ending) (w' : World) : Prop := ∃ v, e = .returned (.tuple #[v, .bool x.isSome]) ∧ OwnInt w' w.heap.size v (x.getD []) ∧ Below w.heap.size w w'
theorem SailPost.no {x : Option (List Int)} {w w' : World} (h : x = none) (hb : Below w.heap.size w w') : SailPost x w (.returned (.tuple #[.slice none 0 0, .bool false])) w' := by
  subst h
  exact ⟨_, rfl, (GathO.empty (cs := intCells) (t := 3) (k := 1) hb).1, hb⟩
theorem SailPost.yes {x : Option (List Int)} {w w' : World} {out : List Int} {v : Value} (h : x = some out) (ho : OwnInt w' w.heap.size v out) (hb : Below w.heap.size w w') : SailPost x w (.returned (.tuple #[v, .bool true])) w' := by
  subst h
  exact ⟨_, rfl, ho, hb⟩
theorem getD_at {α : Type} {l : List α} {k : Nat} {x z : α} (h : l[k]? = some x) : l.getD k z = x := by rw [List.getD_eq_getElem?_getD, h]; rfl
end Go.Proofs.YtooeikimoheecaaGreat
namespace Go.Proofs.YtooeikimoheecaaGreat
open Go.ChangeShapes Go.WideShapes Go.ChangeAt Go.Deep Go.RowKit
set_option maxRecDepth 100000
structure ChartD where
  points : List PointD
  segs : List SegmentD
/-- The slices read as the lists of d. -/
def RdChart (w : World) (v0 v1 : Value) (d : ChartD) : Prop := SlPoint w v0 d.points ∧ SlSegment w v1 d.segs
theorem RdChart.below {w w' : World} {v0 v1 : Value} {d : ChartD} (h : RdChart w v0 v1 d) (hb : Below w.heap.size w w') : RdChart w' v0 v1 d := ⟨h.1.below hb, h.2.below hb⟩
/-- A new value: over new lists, each in memory of its own. -/
def NewChart (d : ChartD) (w : World) (e : Ending) (w' : World) : Prop :=
  ∃ v0 v1, e = .returned (.agg #[v0, v1]) ∧ OwnPoint w' w.heap.size v0 d.points ∧ OwnSegment w' w.heap.size v1 d.segs ∧ ApartV v0 v1 ∧ Below w.heap.size w w'
set_option maxHeartbeats 4000000 in
theorem toChart_any (v0 v1 : Value) (d : ChartD) (w : World) (h : RdChart w v0 v1 d) :
    Calls Tryz.prog 11 #[.agg #[v0, v1]] w (NewChart d w) := by
  obtain ⟨h0, h1⟩ := h
  have H0 := Lib.hid h0
  have H1 := Lib.hid h1
  obtain ⟨A0, c0, rfl⟩ := h0.at
  obtain ⟨A1, c1, rfl⟩ := h1.at
  clear h0 h1
  go_enter Tryz.func11, Tryz.ntmps11
  go_wp2_with fail
  refine (toPointS_any _ d.points _ (H0.out.below ?_)).mono ?_
  · repeat (first | exact Below.refl _ _ | refine Below.setCell ?_ (by simp <;> omega) _ | refine Below.alloc ?_ (by simp <;> omega) _)
  rintro e w0 ⟨v0, rfl, ho0, hb0⟩
  obtain ⟨D0, k0, rfl⟩ := own_form ho0
  have S0 := Lib.hid (own_lo ho0 (base' := w.heap.size + 3) (by simp))
  have L0 := Lib.hid (World.ownsRow.lt ho0)
  obtain ⟨hc0, hf0⟩ := bcellV hb0
  have hz0 : w.heap.size + 2 < w0.heap.size := by have := hb0.size; simp at this; omega
  have hx0 : w.heap.size + 1 < w0.heap.size := by omega
  have hxx0 : w.heap.size < w0.heap.size := by omega
  have B0 : Hid (Below w.heap.size w w0) := by
    refine Lib.hid ?_
    repeat (first | exact Below.refl _ _ | refine Below.setCell ?_ (by simp <;> omega) _ | refine Below.alloc ?_ (by simp <;> omega) _ | refine Below.trans ?_ (hb0.mono (by simp <;> omega)))
  clear ho0
  go_wp2_with fail
  refine (toSegmentS_any _ d.segs _ (H1.out.below ?_)).mono ?_
  · repeat (first | exact B0.out | exact Below.refl _ _ | refine Below.setCell ?_ (by simp <;> omega) _ | refine Below.alloc ?_ (by simp <;> omega) _)
  rintro e w1 ⟨v1, rfl, ho1, hb1⟩
  obtain ⟨D1, k1, rfl⟩ := own_form ho1
  have S1 := Lib.hid (own_lo ho1 (base' := w.heap.size + 3) (by simp; omega))
  have L1 := Lib.hid (World.ownsRow.lt ho1)
  obtain ⟨hc1, hf1⟩ := bcellV hb1
  have hy1 : w0.heap.size ≤ w1.heap.size := by have := hb1.size; simp at this; omega
  have hz1 : w.heap.size + 2 < w1.heap.size := by omega
  have hx1 : w.heap.size + 1 < w1.heap.size := by omega
  have hxx1 : w.heap.size < w1.heap.size := by omega
  have B1 : Hid (Below w.heap.size w w1) := by
    refine Lib.hid ?_
    repeat (first | exact B0.out | exact Below.refl _ _ | refine Below.setCell ?_ (by simp <;> omega) _ | refine Below.alloc ?_ (by simp <;> omega) _ | refine Below.trans ?_ (hb1.mono (by simp <;> omega)))
  clear ho1
  go_wp2
  refine bodyPost_ret (v := .agg #[.slice D0 d.points.length k0, .slice D1 d.segs.length k1]) (by simp [results, Tryz.results11, go_sem, *]) rfl ⟨_, _, rfl, ?_, ?_, ?_, ?_⟩
  · refine own_lo (base := w.heap.size + 3) ?_ (by omega)
    repeat (first | exact S0.out | refine own_set_under ?_ (by simp <;> omega) _ | refine own_below ?_ hb1)
  · refine own_lo (base := w.heap.size + 3) ?_ (by omega)
    repeat (first | exact S1.out | refine own_set_under ?_ (by simp <;> omega) _)
  · intro g hg hg'
    have h1 := (L0.out g hg).2
    have h2 := (L1.out g hg').1
    simp at h2
    omega
  · repeat (first | exact B1.out | exact Below.refl _ _ | refine Below.setCell ?_ (by simp <;> omega) _ | refine Below.alloc ?_ (by simp <;> omega) _)
/-- What the law measures: elements and bytes. -/
def bulkChart (d : ChartD) : Int := ((d.points.length : Int) + bulkPoint d.points) + ((d.segs.length : Int) + bulkSegment d.segs)
theorem bulkChart_pos (d : ChartD) : 0 ≤ bulkChart d := by
  have p0 := bulkPoint_pos d.points
  have p1 := bulkSegment_pos d.segs
  unfold bulkChart
  omega
def SizChart (w : World) (A0 A1 : Option Addr) (c0 c1 : Nat) (d : ChartD) : Prop := d.points.length ≤ 9223372036854775807 ∧ (d.points.length ≤ 1000000000 → SlPoint w (.slice A0 d.points.length c0) d.points) ∧ (∀ x ∈ d.points, PointD.wf x) ∧ d.segs.length ≤ 9223372036854775807 ∧ (d.segs.length ≤ 1000000000 → SlSegment w (.slice A1 d.segs.length c1) d.segs) ∧ (∀ x ∈ d.segs, SegmentD.wf x)
theorem bulkChart_le (d : ChartD) : (d.points.length : Int) ≤ bulkChart d ∧ (d.segs.length : Int) ≤ bulkChart d := by
  have p0 := bulkPoint_pos d.points
  have p1 := bulkSegment_pos d.segs
  unfold bulkChart
  omega
theorem SizChart.below {w w' : World} {A0 A1 : Option Addr} {c0 c1 : Nat} {d : ChartD} (h : SizChart w A0 A1 c0 c1 d) (hb : Below w.heap.size w w') : SizChart w' A0 A1 c0 c1 d := by
  obtain ⟨l0, s0, f0, l1, s1, f1⟩ := h
  exact ⟨l0, fun h => (s0 h).below hb, f0, l1, fun h => (s1 h).below hb, f1⟩
set_option maxHeartbeats 4000000 in
theorem szChart_any (A0 A1 : Option Addr) (c0 c1 : Nat) (d : ChartD) (w : World) (h : SizChart w A0 A1 c0 c1 d) (lim : Int) (h0 : 0 ≤ lim) (h1 : lim ≤ 1048576) :
    Calls Tryz.prog 7 #[.agg #[.slice A0 d.points.length c0, .slice A1 d.segs.length c1], .int .i64 lim] w fun e w' => e = .returned (.int .i64 (leftOf lim (bulkChart d))) ∧ Below w.heap.size w w' := by
  obtain ⟨l0, s0, f0, l1, s1, f1⟩ := h
  have hal := Joins.below_alloc1 w (.cells #[.slice A0 d.points.length c0, .slice A1 d.segs.length c1] 31)
  have HAL := Lib.hid hal
  have p0 := bulkPoint_pos d.points
  have p1 := bulkSegment_pos d.segs
  have z0 : 0 ≤ (d.points.length : Int) + bulkPoint d.points := by omega
  have z1 : 0 ≤ (d.segs.length : Int) + bulkSegment d.segs := by omega
  obtain ⟨r, hr⟩ : ∃ r, leftOf lim (bulkChart d) = r := ⟨_, rfl⟩
  rw [hr]
  unfold bulkChart at hr
  have C0 : ∀ W, Below w.heap.size w W → Calls Tryz.prog 32 #[.slice A0 d.points.length c0, .int .i64 (lim)] W fun e w' => e = .returned (.int .i64 (leftOf (lim) ((d.points.length : Int) + bulkPoint d.points))) ∧ Below W.heap.size W w' := fun W hW => szPointS_any A0 d.points c0 W l0 (fun hle => (s0 hle).below hW) (fun x hx => wfszPoint (f0 x hx)) (lim) (by omega) (by omega)
  by_cases t0 : lim < ((d.points.length : Int) + bulkPoint d.points)
  · rw [leftOf_no t0] at C0
    have C0' := Lib.hid C0
    rw [leftOf_no (by omega)] at hr
    subst hr
    clear C0 s0 s1
    go_enter Tryz.func7, Tryz.ntmps7
    go_wp2_with fail
    refine (C0'.out _ HAL.out).mono ?_
    rintro e w0 ⟨rfl, hb0⟩
    have B0 := Lib.hid (HAL.out.trans (hb0.mono (by first | exact HAL.out.size | simp)))
    obtain ⟨hc0, hf0⟩ := bcellV hb0
    clear hb0
    go_wp2
    go_ret
    exact ⟨rfl, B0.out⟩
  rw [leftOf_yes t0] at C0
  have C0' := Lib.hid C0
  clear C0
  have y0 : ¬ lim - ((d.points.length : Int) + bulkPoint d.points) < 0 := by omega
  have C1 : ∀ W, Below w.heap.size w W → Calls Tryz.prog 33 #[.slice A1 d.segs.length c1, .int .i64 (lim - ((d.points.length : Int) + bulkPoint d.points))] W fun e w' => e = .returned (.int .i64 (leftOf (lim - ((d.points.length : Int) + bulkPoint d.points)) ((d.segs.length : Int) + bulkSegment d.segs))) ∧ Below W.heap.size W w' := fun W hW => szSegmentS_any A1 d.segs c1 W l1 (fun hle => (s1 hle).below hW) (lim - ((d.points.length : Int) + bulkPoint d.points)) (by omega) (by omega)
  by_cases t1 : lim - ((d.points.length : Int) + bulkPoint d.points) < ((d.segs.length : Int) + bulkSegment d.segs)
  · rw [leftOf_no t1] at C1
    have C1' := Lib.hid C1
    rw [leftOf_no (by omega)] at hr
    subst hr
    clear C1 s0 s1
    go_enter Tryz.func7, Tryz.ntmps7
    go_wp2_with fail
    refine (C0'.out _ HAL.out).mono ?_
    rintro e w0 ⟨rfl, hb0⟩
    have B0 := Lib.hid (HAL.out.trans (hb0.mono (by first | exact HAL.out.size | simp)))
    obtain ⟨hc0, hf0⟩ := bcellV hb0
    clear hb0
    go_wp2_with fail
    refine (C1'.out _ B0.out).mono ?_
    rintro e w1 ⟨rfl, hb1⟩
    have B1 := Lib.hid (B0.out.trans (hb1.mono (by first | exact B0.out.size | simp)))
    obtain ⟨hc1, hf1⟩ := bcellV hb1
    clear hb1
    go_wp2
    go_ret
    exact ⟨rfl, B1.out⟩
  rw [leftOf_yes t1] at C1
  have C1' := Lib.hid C1
  clear C1
  have y1 : ¬ lim - ((d.points.length : Int) + bulkPoint d.points) - ((d.segs.length : Int) + bulkSegment d.segs) < 0 := by omega
  rw [leftOf_yes (by omega)] at hr
  have hr' : r = lim - ((d.points.length : Int) + bulkPoint d.points) - ((d.segs.length : Int) + bulkSegment d.segs) := by omega
  clear hr s0 s1
  subst hr'
  go_enter Tryz.func7, Tryz.ntmps7
  go_wp2_with fail
  refine (C0'.out _ HAL.out).mono ?_
  rintro e w0 ⟨rfl, hb0⟩
  have B0 := Lib.hid (HAL.out.trans (hb0.mono (by first | exact HAL.out.size | simp)))
  obtain ⟨hc0, hf0⟩ := bcellV hb0
  clear hb0
  go_wp2_with fail
  refine (C1'.out _ B0.out).mono ?_
  rintro e w1 ⟨rfl, hb1⟩
  have B1 := Lib.hid (B0.out.trans (hb1.mono (by first | exact B0.out.size | simp)))
  obtain ⟨hc1, hf1⟩ := bcellV hb1
  clear hb1
  go_wp2
  go_ret
  exact ⟨rfl, B1.out⟩
set_option maxHeartbeats 4000000 in
theorem eqChart_same (va0 va1 vb0 vb1 : Value) (d : ChartD) (w : World) (ha : RdChart w va0 va1 d) (hb : RdChart w vb0 vb1 d) :
    Calls Tryz.prog 16 #[.agg #[va0, va1], .agg #[vb0, vb1]] w fun e w' => e = .returned (.bool true) ∧ Below w.heap.size w w' := by
  obtain ⟨ha0, ha1⟩ := ha
  obtain ⟨hb0, hb1⟩ := hb
  have HA0 := Lib.hid ha0
  have HB0 := Lib.hid hb0
  have HA1 := Lib.hid ha1
  have HB1 := Lib.hid hb1
  obtain ⟨A0, c0, rfl⟩ := ha0.at
  obtain ⟨D0, k0, rfl⟩ := hb0.at
  obtain ⟨A1, c1, rfl⟩ := ha1.at
  obtain ⟨D1, k1, rfl⟩ := hb1.at
  clear ha0 hb0 ha1 hb1
  have B := Lib.hid (Joins.below_alloc2 w (.cells #[.slice A0 d.points.length c0, .slice A1 d.segs.length c1] 49) (.cells #[.slice D0 d.points.length k0, .slice D1 d.segs.length k1] 49))
  go_enter Tryz.func16, Tryz.ntmps16
  go_wp2_with fail
  refine (eqPointS_same _ _ d.points _ (HA0.out.below B.out) (HB0.out.below B.out)).mono ?_
  rintro e w0 ⟨rfl, hb0⟩
  have B0 := Lib.hid (B.out.trans (hb0.mono B.out.size))
  obtain ⟨hc0, hf0⟩ := bcellV hb0
  clear hb0
  go_wp2_with fail
  refine (eqSegmentS_same _ _ d.segs _ (HA1.out.below B0.out) (HB1.out.below B0.out)).mono ?_
  rintro e w1 ⟨rfl, hb1⟩
  have B1 := Lib.hid (B0.out.trans (hb1.mono B0.out.size))
  obtain ⟨hc1, hf1⟩ := bcellV hb1
  clear hb1
  go_wp2
  go_ret
  exact ⟨rfl, B1.out⟩
set_option maxHeartbeats 4000000 in
theorem markChart_any (v0 v1 : Value) (d : ChartD) (k : Int) (a b : Nat) (w : World) (h : RdChart w v0 v1 d) (f0 : FreeV w v0) (f1 : FreeV w v1) (r0 : RangeV v0 a b) (r1 : RangeV v1 a b) (p0_1 : ApartV v0 v1) (h0 : 0 ≤ k) (h1 : k ≤ 10000000) (l0 : d.points.length ≤ 1100000) (l1 : d.segs.length ≤ 1100000) :
    Calls Tryz.prog 25 #[.agg #[v0, v1], .int .i64 k] w fun e w' => e = .returned (.int .i64 (k + (d.points.length : Int) * 2 + (d.segs.length : Int) * 5)) ∧ MarkedV w' v0 (d.points.length * 2) (mvPoint (k)) ∧ MarkedV w' v1 (d.segs.length * 5) (mvSegment (k + (d.points.length : Int) * 2)) ∧ TouchR w w' a b := by
  obtain ⟨h0, h1⟩ := h
  have hal := Joins.below_alloc1 w (.cells #[v0, v1] 49)
  have K := Lib.hid (Blk.new w #[v0, v1] 49)
  have T0 := Lib.hid (touch_below hal a b)
  have H0 := Lib.hid (h0.below hal)
  have G0 := Lib.hid (f0.below hal)
  have ge0 : ∀ g, v0.ownBlock = some g → g < w.heap.size := fun g hg => (f0 g hg).2
  have H1 := Lib.hid (h1.below hal)
  have G1 := Lib.hid (f1.below hal)
  have ge1 : ∀ g, v1.ownBlock = some g → g < w.heap.size := fun g hg => (f1 g hg).2
  have R0 := Lib.hid r0
  have GE0 := Lib.hid ge0
  have R1 := Lib.hid r1
  have GE1 := Lib.hid ge1
  have AP0_1 := Lib.hid p0_1
  have ms : (w.alloc (.cells #[v0, v1] 49)).heap.size = w.heap.size + 1 := by simp
  obtain ⟨A0, c0, rfl⟩ := h0.at
  obtain ⟨A1, c1, rfl⟩ := h1.at
  clear hal h0 f0 r0 ge0 h1 f1 r1 ge1 p0_1
  go_enter Tryz.func25, Tryz.ntmps25
  go_wp2_with fail
  refine (markPointS_any _ d.points (k) _ H0.out (fun g hg => (G0.out g hg).1) (by omega) (by omega) (by omega)).mono ?_
  rintro e w0 ⟨rfl, m0, g0⟩
  have U0 := touch_grown g0 R0.out
  have T1 := Lib.hid (T0.out.trans U0)
  have M0_1 := Lib.hid m0
  have H1_1 := Lib.hid (SlOf.grown H1.out g0 AP0_1.out.ne.1)
  have G1_1 := Lib.hid (FreeV.grown G1.out g0 AP0_1.out.ne.1)
  have K1 := Lib.hid (K.out.grown g0 (fun e => Nat.lt_irrefl _ (GE0.out _ e.symm)))
  clear m0 g0 U0
  have x1_0 := K1.out.cell 0
  have x1_1 := K1.out.cell 1
  simp at x1_0 x1_1
  go_wp2_with fail
  refine (markSegmentS_any _ d.segs (k + (d.points.length : Int) * 2) _ H1_1.out (fun g hg => (G1_1.out g hg).1) (by omega) (by omega) (by omega)).mono ?_
  rintro e w1 ⟨rfl, m1, g1⟩
  have U1 := touch_grown g1 R1.out
  have T2 := Lib.hid (T1.out.trans U1)
  have M1_2 := Lib.hid m1
  have M0_2 := Lib.hid (M0_1.out.grown g1 (AP0_1.out.ne.2))
  have K2 := Lib.hid (K1.out.grown g1 (fun e => Nat.lt_irrefl _ (GE1.out _ e.symm)))
  clear m1 g1 U1 x1_0 x1_1
  go_wp2
  go_ret
  exact ⟨rfl, M0_2.out, M1_2.out, T2.out⟩
/-- The block b holds d over the slices v0 v1. -/
def ChartBox (w : World) (b : Nat) (v0 v1 : Value) (d : ChartD) : Prop := w.cell? ⟨b, 0, none⟩ = some (v0) ∧ w.cell? ⟨b, 1, none⟩ = some (v1) ∧ RdChart w v0 v1 d
theorem ChartBox.below {w w' : World} {b : Nat} {v0 v1 : Value} {d : ChartD} (h : ChartBox w b v0 v1 d) (hb : Below w.heap.size w w') : ChartBox w' b v0 v1 d := by
  obtain ⟨h0, h1, hr⟩ := h
  exact ⟨cell_onV h0 hb, cell_onV h1 hb, hr.below hb⟩
theorem ChartBox.new {w : World} {v0 v1 : Value} {d : ChartD} (t : TypeId) (h : RdChart w v0 v1 d) : ChartBox (w.alloc (.cells #[v0, v1] t)) w.heap.size v0 v1 d := by
  refine ⟨?_, ?_, h.below (Joins.below_alloc1 _ _)⟩
  all_goals (rw [World.cell?_alloc_at _ _ _ _ rfl]; rfl)
theorem NewChart.rd {d : ChartD} {w w' : World} {e : Ending} (h : NewChart d w e w') (hl0 : d.points.length ≤ 1000000000) (hl1 : d.segs.length ≤ 1000000000) :
    ∃ A0 c0 A1 c1, e = .returned (.agg #[.slice A0 d.points.length c0, .slice A1 d.segs.length c1]) ∧ RdChart w' (.slice A0 d.points.length c0) (.slice A1 d.segs.length c1) d ∧ Below w.heap.size w w' := by
  obtain ⟨v0, v1, rfl, o0, o1, _, hb⟩ := h
  have s0 := OwnPoint.sl o0 hl0
  obtain ⟨A0, c0, rfl⟩ := own_form o0
  have s1 := OwnSegment.sl o1 hl1
  obtain ⟨A1, c1, rfl⟩ := own_form o1
  exact ⟨A0, c0, A1, c1, rfl, ⟨s0, s1⟩, hb⟩
section
variable {H : Type} {enc : TypeId × Value → H} {w : World} {base : Nat} {spare : Nat → Bool} {held : Bool}
/-- A value that came in. -/
def ChartIn (w : World) (A0 A1 : Option Addr) (c0 c1 : Nat) (d : ChartD) : Prop := SizChart w A0 A1 c0 c1 d
theorem dec_chart (m : Nat) (cs : List Value) (y : DataW H × List MemPlace) (h : DataW.trod enc Tryz.prog w base (fun _ => true) held m 31 cs = some y) :
    ∃ A0 c0 A1 c1 d, cs = [.slice A0 d.points.length c0, .slice A1 d.segs.length c1] ∧ ChartIn w A0 A1 c0 c1 d := by
  obtain ⟨hl, hf⟩ := struct_cells Tryz.underlying31 (by kernel_rfl) (by kernel_rfl) h
  obtain ⟨v0, n0, y0, e0, h0⟩ := hf 0 _ rfl
  obtain ⟨v1, n1, y1, e1, h1⟩ := hf 1 _ rfl
  obtain ⟨A0, c0, a0, rfl, m0, s0, f0⟩ := open_points h0
  obtain ⟨A1, c1, a1, rfl, m1, s1, f1⟩ := open_segments h1
  unfold maxLen at m0
  unfold maxLen at m1
  refine ⟨A0, c0, A1, c1, ⟨a0, a1⟩, ?_, by simp only; omega, s0, f0, by simp only; omega, s1, f1⟩
  match cs, hl with
  | [b0, b1], _ =>
    simp at e0 e1
    subst e0 e1
    rfl
theorem open_chart_arg {r : Reach} {b0 : Nat} {v : Value} {y : DataW H} {ps : List MemPlace} (hval : Value.okWide Tryz.prog w r b0 31 v) (hd : DataW.Trod enc Tryz.prog w 0 (fun _ => true) true 31 v y ps) :
    ∃ A0 c0 A1 c1 d, v = .agg #[.slice A0 d.points.length c0, .slice A1 d.segs.length c1] ∧ ChartIn w A0 A1 c0 c1 d := by
  obtain ⟨cs, rfl, hsz⟩ := okWide_struct Tryz.underlying31 hval
  obtain ⟨fuel, hf⟩ := hd
  obtain ⟨A0, c0, A1, c1, d, hp, g⟩ := dec_chart _ _ _ hf
  refine ⟨A0, c0, A1, c1, d, ?_, g⟩
  obtain ⟨ls⟩ := cs
  simp [Value.cells] at hp
  rw [hp]
end
end Go.Proofs.YtooeikimoheecaaGreat
