
/- What ExactPassageOk and ExactArrivalOf and ExactPassagesOf and ExactIsChain rests on, part 7: contracts and mathematics. -/
import Derived.Test.YtooeikimoheecaaPa3
import Derived.Test.YtooeikimoheecaaPa1
import Derived.Test.YtooeikimoheecaaPa5
import Derived.Test.YtooeikimoheecaaPa2
import Derived.Test.YtooeikimoheecaaPa6
import Derived.Test.YtooeikimoheecaaPa0
import Derived.Test.YtooeikimoheecaaPa4
import Derived.Deep.RegionHeld3
namespace Go.Proofs.Ytooeikimoheecaa
open Go.RowKit
/-- From w to w' only blocks from a up to b have changed, and new ones have come. -/
structure TouchR (w w' : World) (a b : Nat) : Prop where
  os : w'.os = w.os
  tape : w'.tape = w.tape
  output : w'.output = w.output
  size : w.heap.size ≤ w'.heap.size
  block : ∀ i, i < w.heap.size → ¬ (a ≤ i ∧ i < b) → w'.heap[i]? = w.heap[i]?
/-- The value's own block lies from a up to b. -/
def RangeV (v : Value) (a b : Nat) : Prop := ∀ g, v.ownBlock = some g → a ≤ g ∧ g < b
theorem RangeV.wide {v : Value} {a b a' b' : Nat} (h : RangeV v a b) (ha : a' ≤ a) (hb : b ≤ b') : RangeV v a' b' := fun g hg => by have := h g hg; omega
theorem own_range {α : Type} {k : Nat} {cs : α → List Value} {t : TypeId} {w : World} {base : Nat} {v : Value} {l : List α} (h : OwnOf k cs t w base v l) : RangeV v base w.heap.size := fun g hg => World.ownsRow.lt h g hg
theorem RangeV.apart {v u : Value} {a b c d : Nat} (h : RangeV v a b) (h' : RangeV u c d) (hd : b ≤ c ∨ d ≤ a) : ApartV v u := fun g hg hg' => by have := h g hg; have := h' g hg'; omega
theorem touch_below {w w' : World} (h : Below w.heap.size w w') (a b : Nat) : TouchR w w' a b := ⟨h.os, h.tape, h.output, h.size, fun i hi _ => h.block i hi⟩
theorem touch_grown {w w' : World} {v : Value} {a b : Nat} (h : w.grownBy w' v.ownBlock) (hr : RangeV v a b) : TouchR w w' a b :=
  ⟨h.os, h.tape, h.output, h.size, fun i hi hn => h.block i hi (fun e => hn (hr i e.symm))⟩
theorem TouchR.trans {w w1 w2 : World} {a b : Nat} (h : TouchR w w1 a b) (k : TouchR w1 w2 a b) : TouchR w w2 a b :=
  ⟨k.os.trans h.os, k.tape.trans h.tape, k.output.trans h.output, Nat.le_trans h.size k.size, fun i hi hn => (k.block i (Nat.lt_of_lt_of_le hi h.size) hn).trans (h.block i hi hn)⟩
theorem TouchR.wide {w w' : World} {a b a' b' : Nat} (h : TouchR w w' a b) (ha : a' ≤ a) (hb : b ≤ b') : TouchR w w' a' b' := ⟨h.os, h.tape, h.output, h.size, fun i hi hn => h.block i hi (by omega)⟩
theorem TouchR.cell {w w' : World} {a b : Nat} (h : TouchR w w' a b) {p : Addr} {v : Value} (hc : w.cell? p = some v) (hp : ¬ (a ≤ p.block ∧ p.block < b)) : w'.cell? p = some v := by
  have e := h.block p.block (World.block_lt_of_cell? w p hc) hp
  have : w'.cell? p = w.cell? p := by simp [World.cell?, e]
  rw [this]; exact hc
theorem TouchR.frozen {w w' : World} {a b : Nat} (h : TouchR w w' a b) {p : Addr} (hlt : p.block < w.heap.size) (hp : ¬ (a ≤ p.block ∧ p.block < b)) : w'.frozen? p = w.frozen? p := by
  have e := h.block p.block hlt hp
  simp [World.frozen?, e]
theorem TouchR.below {w0 w w' : World} {base a b : Nat} (hb : Below base w0 w) (h : TouchR w w' a b) (h0 : base ≤ w.heap.size) (ha : base ≤ a) : Below base w0 w' :=
  ⟨h.os.trans hb.os, h.tape.trans hb.tape, h.output.trans hb.output, Nat.le_trans hb.size h.size, fun i hi => (h.block i (by omega) (by omega)).trans (hb.block i hi)⟩
theorem SlOf.touch {α : Type} {k : Nat} {cs : α → List Value} {w w' : World} {v : Value} {l : List α} {a b c d : Nat} (h : SlOf k cs w v l) (ht : TouchR w w' a b) (hr : RangeV v c d) (hd : b ≤ c ∨ d ≤ a) : SlOf k cs w' v l := by
  refine ⟨h.1, ?_⟩
  rcases h.2 with ⟨rfl, A, n, rfl⟩ | ⟨g, o, n, rfl, hp, hcap, hc⟩
  · exact .inl ⟨rfl, A, n, rfl⟩
  · refine .inr ⟨g, o, n, rfl, hp, hcap, fun i x hx j u hu => ht.cell (hc i x hx j u hu) ?_⟩
    have := hr g rfl
    show ¬ (a ≤ g ∧ g < b)
    omega
theorem MarkedV.touch {w w' : World} {v : Value} {N : Nat} {mv : Nat → Value} {a b c d : Nat} (h : MarkedV w v N mv) (ht : TouchR w w' a b) (hr : RangeV v c d) (hd : b ≤ c ∨ d ≤ a) : MarkedV w' v N mv := by
  rcases h with h | ⟨g, o, len, n, rfl, hc⟩
  · exact .inl h
  · refine .inr ⟨g, o, len, n, rfl, fun j hj => ht.cell (hc j hj) ?_⟩
    have := hr g rfl
    show ¬ (a ≤ g ∧ g < b)
    omega
theorem FreeV.touch {w w' : World} {v : Value} {a b c d : Nat} (h : FreeV w v) (ht : TouchR w w' a b) (hr : RangeV v c d) (hd : b ≤ c ∨ d ≤ a) : FreeV w' v := fun g hg => by
  have := hr g hg
  refine ⟨fun j => (ht.frozen (p := ⟨g, j, none⟩) (h g hg).2 (by show ¬ (a ≤ g ∧ g < b); omega)).trans ((h g hg).1 j), Nat.lt_of_lt_of_le (h g hg).2 ht.size⟩
theorem Blk.touch {w w' : World} {a b p : Nat} {cs : Array Value} {t : TypeId} (h : Blk w p cs t) (ht : TouchR w w' a b) (hp : ¬ (a ≤ p ∧ p < b)) : Blk w' p cs t := (ht.block p h.lt hp).trans h
end Go.Proofs.Ytooeikimoheecaa
namespace Go.Proofs.Ytooeikimoheecaa
open Go.RowKit
set_option maxRecDepth 100000
/-- An element of a list of ints over memory of its own, whatever its length. -/
theorem own_int_at {w : World} {base : Nat} {v : Value} {l : List Int} {k : Nat} {x : Int} (h : OwnInt w base v l) (hx : l[k]? = some x) : ∃ g c, v = .slice (some ⟨g, 0, none⟩) l.length c ∧ w.cell? ⟨g, k, none⟩ = some (.int .i64 x) := by
  have hk : k < l.length := (List.getElem?_eq_some_iff.1 hx).1
  have hf : l.flatMap intCells = l.map (fun x => Value.int .i64 x) := by
    clear h hx hk
    induction l with
    | nil => rfl
    | cons x l ih => simp [intCells, ih]
  have h' := h
  rcases h.2 with ⟨_, h0⟩ | ⟨g, cap, cur, rfl, rest⟩
  · omega
  · refine ⟨g, cap, rfl, ?_⟩
    have := World.ownsRow.cells h' (g := g) rfl k (.int .i64 x) (by rw [hf]; simp [hx])
    have e : (⟨g, 0, none⟩ : Addr).add k = ⟨g, k, none⟩ := by unfold Addr.add; split <;> simp_all
    rw [e] at this
    exact this
end Go.Proofs.Ytooeikimoheecaa
namespace Go.Proofs.Ytooeikimoheecaa
open Go.ChangeShapes Go.WideShapes Go.ChangeAt Go.Deep Go.RowKit
set_option maxRecDepth 100000
variable {H : Type} {enc : TypeId × Value → H} {w : World}
theorem open_ships_arg {r : Reach} {b0 : Nat} {v : Value} {d : DataW H} {ps : List MemPlace} (hval : Value.okWide Try.prog w r b0 59 v) (hd : DataW.Trod enc Try.prog w 0 (fun _ => true) true 59 v d ps) :
    ∃ A c l, v = .slice A l.length c ∧ l.length ≤ maxLen ∧ (l.length ≤ 1000000000 → SlShip w (.slice A l.length c) l) ∧ ∀ d ∈ l, ShipD.wf d := by
  obtain ⟨A, len, cap, rfl⟩ := okWide_slice Try.underlying59 hval
  obtain ⟨fuel, hf⟩ := hd
  exact open_ships hf
end Go.Proofs.Ytooeikimoheecaa
namespace Go.Proofs.Ytooeikimoheecaa
open Go.ChangeShapes Go.WideShapes Go.ChangeAt Go.Deep Go.RowKit
set_option maxRecDepth 100000
variable {H : Type} {enc : TypeId × Value → H} {w : World}
theorem open_passages_arg {r : Reach} {b0 : Nat} {v : Value} {d : DataW H} {ps : List MemPlace} (hval : Value.okWide Try.prog w r b0 85 v) (hd : DataW.Trod enc Try.prog w 0 (fun _ => true) true 85 v d ps) :
    ∃ A c l, v = .slice A l.length c ∧ l.length ≤ maxLen ∧ (l.length ≤ 1000000000 → SlPassage w (.slice A l.length c) l) ∧ ∀ d ∈ l, PassageD.wf d := by
  obtain ⟨A, len, cap, rfl⟩ := okWide_slice Try.underlying85 hval
  obtain ⟨fuel, hf⟩ := hd
  exact open_passages hf
end Go.Proofs.Ytooeikimoheecaa
namespace Go.Proofs.Ytooeikimoheecaa
open Go.RowKit
set_option maxRecDepth 100000
/-- Whether every int of a list is a minute. -/
def minutesB (l : List Int) : Bool := l.all (fun t => inB t 0 2880)
/-- The first k ints are minutes. -/
def FirstM (l : List Int) (k : Nat) : Prop := ∀ j x, j < k → l[j]? = some x → inB x 0 2880 = true
theorem FirstM.zero (l : List Int) : FirstM l 0 := fun _ _ hj => absurd hj (Nat.not_lt_zero _)
theorem FirstM.next {l : List Int} {k : Nat} {x : Int} (h : FirstM l k) (hx : l[k]? = some x) (hb : inB x 0 2880 = true) : FirstM l (k + 1) := fun j y hj hy => by
  rcases Nat.lt_or_ge j k with h1 | h1
  · exact h j y h1 hy
  · obtain rfl : j = k := by omega
    rw [hx] at hy
    injection hy with e
    rw [← e]; exact hb
theorem minutesB_no {l : List Int} {k : Nat} {x : Int} (hx : l[k]? = some x) (hb : inB x 0 2880 = false) : minutesB l = false := by
  unfold minutesB
  rw [List.all_eq_false]
  exact ⟨x, List.mem_of_getElem? hx, by rw [hb]; simp⟩
theorem minutesB_yes {l : List Int} (h : FirstM l l.length) : minutesB l = true := by
  unfold minutesB
  rw [List.all_eq_true]
  intro x hx
  obtain ⟨j, hj, e⟩ := List.getElem_of_mem hx
  exact h j x hj (by rw [List.getElem?_eq_getElem hj, e])
theorem minutesB_at {l : List Int} {k : Nat} {x : Int} (h : minutesB l = true) (hx : l[k]? = some x) : inB x 0 2880 = true := by
  unfold minutesB at h
  rw [List.all_eq_true] at h
  exact h x (List.mem_of_getElem? hx)
set_option maxHeartbeats 2000000 in
theorem minuteClosure (t : Int) (w : World) :
    Calls Try.prog 109 #[.int .i64 t] w fun e w' => e = .returned (.bool (!(inB t 0 2880))) ∧ w = w' := by
  obtain ⟨b, hb⟩ : ∃ b, inB t 0 2880 = b := ⟨_, rfl⟩
  have H := Lib.hid hb
  rw [hb]
  clear hb
  go_enter Try.func109, Try.ntmps109
  go_wp2_with fail
  refine (isMinute_any t _).mono ?_
  rw [H.out]
  rintro e w1 ⟨rfl, rfl⟩
  go_wp2
  go_ret
  exact ⟨rfl, rfl⟩
/-- What the search for what is no minute leaves. -/
def NoMinPost (l : List Int) (w : World) (e : Ending) (w' : World) : Prop := ∃ r : Int, e = .returned (.int .i64 r) ∧ decide (0 ≤ r) = !(minutesB l) ∧ Below w.heap.size w w'
set_option maxHeartbeats 4000000 in
theorem minuteIndex (v : Value) (l : List Int) (w : World) (h : SlInt w v l) :
    Calls Try.prog 125 #[v, .func (.func 109) #[] #[]] w (NoMinPost l w) := by
  obtain ⟨hl, h⟩ := h
  rcases h with ⟨rfl, A, c, rfl⟩ | ⟨g, o, c, rfl, hp, hcap, hc⟩
  · go_enter Try.func125, Try.ntmps125
    go_wp2
    refine wp_loop_rounds 1 ?_
    rw [rounds_succ]
    go_wp2
    go_ret
    exact ⟨-1, rfl, rfl, Below.refl _ _⟩
  · have HC := Lib.hid hc
    clear hc
    go_enter Try.func125, Try.ntmps125
    go_wp2
    go_loopw [5, 8] (fun _ i wr => ∃ k : Nat, k ≤ l.length ∧ i = .int .i64 k ∧ Hid (FirstM l k) ∧ Hid (Below w.heap.size w wr)) (fun _ i _ => l.length - (intOf i).toNat)
    case atStart => exact ⟨0, Nat.zero_le _, rfl, Lib.hid (FirstM.zero l), Lib.hid (Below.refl _ _)⟩
    case round =>
      obtain ⟨k, hk, rfl, hN, hb'⟩ := hrel
      by_cases hlt : k < l.length
      rotate_left
      · obtain rfl : k = l.length := by omega
        have E := Lib.hid (minutesB_yes hN.out)
        go_wp2
        go_ret
        exact ⟨-1, rfl, by rw [E.out]; rfl, hb'.out⟩
      · obtain ⟨x, hx⟩ : ∃ x, l[k]? = some x := ⟨_, List.getElem?_eq_getElem hlt⟩
        have a0 := cell_onV (SlInt.cells HC.out k x hx) hb'.out
        have HX := Lib.hid hx
        clear hx
        obtain ⟨b, hb⟩ : ∃ b, inB x 0 2880 = b := ⟨_, rfl⟩
        have HB := Lib.hid hb
        clear hb
        cases b with
        | false =>
          have E := Lib.hid (minutesB_no HX.out HB.out)
          go_wp2_with fail
          refine (minuteClosure x _).mono ?_
          rw [HB.out]
          rintro e w1 ⟨rfl, rfl⟩
          go_wp2
          go_ret
          exact ⟨k, rfl, by rw [E.out]; simp, hb'.out⟩
        | true =>
          have HN2 := Lib.hid (hN.out.next HX.out HB.out)
          go_wp2_with fail
          refine (minuteClosure x _).mono ?_
          rw [HB.out]
          rintro e w1 ⟨rfl, rfl⟩
          go_wp2
          go_roundw
          case rel => exact ⟨k + 1, by omega, by go_num, HN2, hb'⟩
          case measure => simp [intOf]; omega
set_option maxHeartbeats 2000000 in
theorem minuteContains (v : Value) (l : List Int) (w : World) (h : SlInt w v l) :
    Calls Try.prog 108 #[v, .func (.func 109) #[] #[]] w fun e w' => e = .returned (.bool (!(minutesB l))) ∧ Below w.heap.size w w' := by
  have HI := Lib.hid (minuteIndex v l w h)
  obtain ⟨A, c, rfl⟩ := SlOf.form h
  clear h
  go_enter Try.func108, Try.ntmps108
  go_wp2_with fail
  refine HI.out.mono ?_
  rintro e w1 ⟨r, rfl, hr, hb1⟩
  have B1 := Lib.hid hb1
  have HR := Lib.hid hr
  clear hb1 hr
  go_wp2
  go_ret
  exact ⟨ret_bool HR.out, B1.out⟩
set_option maxHeartbeats 2000000 in
theorem areMinutes_any (v : Value) (l : List Int) (w : World) (h : SlInt w v l) :
    Calls Try.prog 76 #[v] w fun e w' => e = .returned (.bool (minutesB l)) ∧ Below w.heap.size w w' := by
  have HI := Lib.hid (minuteContains v l w h)
  obtain ⟨A, c, rfl⟩ := SlOf.form h
  obtain ⟨b, hb⟩ : ∃ b, minutesB l = b := ⟨_, rfl⟩
  have HB := Lib.hid hb
  rw [hb]
  clear h hb
  go_enter Try.func76, Try.ntmps76
  go_wp2_with fail
  refine HI.out.mono ?_
  rw [HB.out]
  rintro e w1 ⟨rfl, hb1⟩
  have B1 := Lib.hid hb1
  clear hb1
  go_wp2
  go_ret
  exact ⟨ret_bool (by simp), B1.out⟩
end Go.Proofs.Ytooeikimoheecaa
namespace Go.Proofs.Ytooeikimoheecaa
open Go.ChangeShapes Go.WideShapes Go.ChangeAt Go.Deep Go.RowKit
set_option maxRecDepth 100000
structure ChartD where
  points : List PointD
  segs : List SegmentD
/-- The slices read as the lists of d. -/
def RdChart (w : World) (v0 v1 : Value) (d : ChartD) : Prop := SlPoint w v0 d.points ∧ SlSegment w v1 d.segs
theorem RdChart.below {w w' : World} {v0 v1 : Value} {d : ChartD} (h : RdChart w v0 v1 d) (hb : Below w.heap.size w w') : RdChart w' v0 v1 d := ⟨h.1.below hb, h.2.below hb⟩
/-- A new value: over new lists, each in memory of its own. -/
def NewChart (d : ChartD) (w : World) (e : Ending) (w' : World) : Prop :=
  ∃ v0 v1, e = .returned (.agg #[v0, v1]) ∧ OwnPoint w' w.heap.size v0 d.points ∧ OwnSegment w' w.heap.size v1 d.segs ∧ ApartV v0 v1 ∧ Below w.heap.size w w'
set_option maxHeartbeats 4000000 in
theorem toChart_any (v0 v1 : Value) (d : ChartD) (w : World) (h : RdChart w v0 v1 d) :
    Calls Try.prog 18 #[.agg #[v0, v1]] w (NewChart d w) := by
  obtain ⟨h0, h1⟩ := h
  have H0 := Lib.hid h0
  have H1 := Lib.hid h1
  obtain ⟨A0, c0, rfl⟩ := h0.at
  obtain ⟨A1, c1, rfl⟩ := h1.at
  clear h0 h1
  go_enter Try.func18, Try.ntmps18
  go_wp2_with fail
  refine (toPointS_any _ d.points _ (H0.out.below ?_)).mono ?_
  · repeat (first | exact Below.refl _ _ | refine Below.setCell ?_ (by simp <;> omega) _ | refine Below.alloc ?_ (by simp <;> omega) _)
  rintro e w0 ⟨v0, rfl, ho0, hb0⟩
  obtain ⟨D0, k0, rfl⟩ := own_form ho0
  have S0 := Lib.hid (own_lo ho0 (base' := w.heap.size + 3) (by simp))
  have L0 := Lib.hid (World.ownsRow.lt ho0)
  obtain ⟨hc0, hf0⟩ := bcellV hb0
  have hz0 : w.heap.size + 2 < w0.heap.size := by have := hb0.size; simp at this; omega
  have hx0 : w.heap.size + 1 < w0.heap.size := by omega
  have hxx0 : w.heap.size < w0.heap.size := by omega
  have B0 : Hid (Below w.heap.size w w0) := by
    refine Lib.hid ?_
    repeat (first | exact Below.refl _ _ | refine Below.setCell ?_ (by simp <;> omega) _ | refine Below.alloc ?_ (by simp <;> omega) _ | refine Below.trans ?_ (hb0.mono (by simp <;> omega)))
  clear ho0
  go_wp2_with fail
  refine (toSegmentS_any _ d.segs _ (H1.out.below ?_)).mono ?_
  · repeat (first | exact B0.out | exact Below.refl _ _ | refine Below.setCell ?_ (by simp <;> omega) _ | refine Below.alloc ?_ (by simp <;> omega) _)
  rintro e w1 ⟨v1, rfl, ho1, hb1⟩
  obtain ⟨D1, k1, rfl⟩ := own_form ho1
  have S1 := Lib.hid (own_lo ho1 (base' := w.heap.size + 3) (by simp; omega))
  have L1 := Lib.hid (World.ownsRow.lt ho1)
  obtain ⟨hc1, hf1⟩ := bcellV hb1
  have hy1 : w0.heap.size ≤ w1.heap.size := by have := hb1.size; simp at this; omega
  have hz1 : w.heap.size + 2 < w1.heap.size := by omega
  have hx1 : w.heap.size + 1 < w1.heap.size := by omega
  have hxx1 : w.heap.size < w1.heap.size := by omega
  have B1 : Hid (Below w.heap.size w w1) := by
    refine Lib.hid ?_
    repeat (first | exact B0.out | exact Below.refl _ _ | refine Below.setCell ?_ (by simp <;> omega) _ | refine Below.alloc ?_ (by simp <;> omega) _ | refine Below.trans ?_ (hb1.mono (by simp <;> omega)))
  clear ho1
  go_wp2
  refine bodyPost_ret (v := .agg #[.slice D0 d.points.length k0, .slice D1 d.segs.length k1]) (by simp [results, Try.results18, go_sem, *]) rfl ⟨_, _, rfl, ?_, ?_, ?_, ?_⟩
  · refine own_lo (base := w.heap.size + 3) ?_ (by omega)
    repeat (first | exact S0.out | refine own_set_under ?_ (by simp <;> omega) _ | refine own_below ?_ hb1)
  · refine own_lo (base := w.heap.size + 3) ?_ (by omega)
    repeat (first | exact S1.out | refine own_set_under ?_ (by simp <;> omega) _)
  · intro g hg hg'
    have h1 := (L0.out g hg).2
    have h2 := (L1.out g hg').1
    simp at h2
    omega
  · repeat (first | exact B1.out | exact Below.refl _ _ | refine Below.setCell ?_ (by simp <;> omega) _ | refine Below.alloc ?_ (by simp <;> omega) _)
/-- What the law measures: elements and bytes. -/
def bulkChart (d : ChartD) : Int := ((d.points.length : Int) + bulkPoint d.points) + ((d.segs.length : Int) + bulkSegment d.segs)
theorem bulkChart_pos (d : ChartD) : 0 ≤ bulkChart d := by
  have p0 := bulkPoint_pos d.points
  have p1 := bulkSegment_pos d.segs
  unfold bulkChart
  omega
def SizChart (w : World) (A0 A1 : Option Addr) (c0 c1 : Nat) (d : ChartD) : Prop := d.points.length ≤ 9223372036854775807 ∧ (d.points.length ≤ 1000000000 → SlPoint w (.slice A0 d.points.length c0) d.points) ∧ (∀ x ∈ d.points, PointD.wf x) ∧ d.segs.length ≤ 9223372036854775807 ∧ (d.segs.length ≤ 1000000000 → SlSegment w (.slice A1 d.segs.length c1) d.segs) ∧ (∀ x ∈ d.segs, SegmentD.wf x)
theorem bulkChart_le (d : ChartD) : (d.points.length : Int) ≤ bulkChart d ∧ (d.segs.length : Int) ≤ bulkChart d := by
  have p0 := bulkPoint_pos d.points
  have p1 := bulkSegment_pos d.segs
  unfold bulkChart
  omega
theorem SizChart.below {w w' : World} {A0 A1 : Option Addr} {c0 c1 : Nat} {d : ChartD} (h : SizChart w A0 A1 c0 c1 d) (hb : Below w.heap.size w w') : SizChart w' A0 A1 c0 c1 d := by
  obtain ⟨l0, s0, f0, l1, s1, f1⟩ := h
  exact ⟨l0, fun h => (s0 h).below hb, f0, l1, fun h => (s1 h).below hb, f1⟩
set_option maxHeartbeats 4000000 in
theorem szChart_any (A0 A1 : Option Addr) (c0 c1 : Nat) (d : ChartD) (w : World) (h : SizChart w A0 A1 c0 c1 d) (lim : Int) (h0 : 0 ≤ lim) (h1 : lim ≤ 1048576) :
    Calls Try.prog 15 #[.agg #[.slice A0 d.points.length c0, .slice A1 d.segs.length c1], .int .i64 lim] w fun e w' => e = .returned (.int .i64 (leftOf lim (bulkChart d))) ∧ Below w.heap.size w w' := by
  obtain ⟨l0, s0, f0, l1, s1, f1⟩ := h
  have hal := Joins.below_alloc1 w (.cells #[.slice A0 d.points.length c0, .slice A1 d.segs.length c1] 58)
  have HAL := Lib.hid hal
  have p0 := bulkPoint_pos d.points
  have p1 := bulkSegment_pos d.segs
  have z0 : 0 ≤ (d.points.length : Int) + bulkPoint d.points := by omega
  have z1 : 0 ≤ (d.segs.length : Int) + bulkSegment d.segs := by omega
  obtain ⟨r, hr⟩ : ∃ r, leftOf lim (bulkChart d) = r := ⟨_, rfl⟩
  rw [hr]
  unfold bulkChart at hr
  have C0 : ∀ W, Below w.heap.size w W → Calls Try.prog 58 #[.slice A0 d.points.length c0, .int .i64 (lim)] W fun e w' => e = .returned (.int .i64 (leftOf (lim) ((d.points.length : Int) + bulkPoint d.points))) ∧ Below W.heap.size W w' := fun W hW => szPointS_any A0 d.points c0 W l0 (fun hle => (s0 hle).below hW) (fun x hx => wfszPoint (f0 x hx)) (lim) (by omega) (by omega)
  by_cases t0 : lim < ((d.points.length : Int) + bulkPoint d.points)
  · rw [leftOf_no t0] at C0
    have C0' := Lib.hid C0
    rw [leftOf_no (by omega)] at hr
    subst hr
    clear C0 s0 s1
    go_enter Try.func15, Try.ntmps15
    go_wp2_with fail
    refine (C0'.out _ HAL.out).mono ?_
    rintro e w0 ⟨rfl, hb0⟩
    have B0 := Lib.hid (HAL.out.trans (hb0.mono (by first | exact HAL.out.size | simp)))
    obtain ⟨hc0, hf0⟩ := bcellV hb0
    clear hb0
    go_wp2
    go_ret
    exact ⟨rfl, B0.out⟩
  rw [leftOf_yes t0] at C0
  have C0' := Lib.hid C0
  clear C0
  have y0 : ¬ lim - ((d.points.length : Int) + bulkPoint d.points) < 0 := by omega
  have C1 : ∀ W, Below w.heap.size w W → Calls Try.prog 59 #[.slice A1 d.segs.length c1, .int .i64 (lim - ((d.points.length : Int) + bulkPoint d.points))] W fun e w' => e = .returned (.int .i64 (leftOf (lim - ((d.points.length : Int) + bulkPoint d.points)) ((d.segs.length : Int) + bulkSegment d.segs))) ∧ Below W.heap.size W w' := fun W hW => szSegmentS_any A1 d.segs c1 W l1 (fun hle => (s1 hle).below hW) (lim - ((d.points.length : Int) + bulkPoint d.points)) (by omega) (by omega)
  by_cases t1 : lim - ((d.points.length : Int) + bulkPoint d.points) < ((d.segs.length : Int) + bulkSegment d.segs)
  · rw [leftOf_no t1] at C1
    have C1' := Lib.hid C1
    rw [leftOf_no (by omega)] at hr
    subst hr
    clear C1 s0 s1
    go_enter Try.func15, Try.ntmps15
    go_wp2_with fail
    refine (C0'.out _ HAL.out).mono ?_
    rintro e w0 ⟨rfl, hb0⟩
    have B0 := Lib.hid (HAL.out.trans (hb0.mono (by first | exact HAL.out.size | simp)))
    obtain ⟨hc0, hf0⟩ := bcellV hb0
    clear hb0
    go_wp2_with fail
    refine (C1'.out _ B0.out).mono ?_
    rintro e w1 ⟨rfl, hb1⟩
    have B1 := Lib.hid (B0.out.trans (hb1.mono (by first | exact B0.out.size | simp)))
    obtain ⟨hc1, hf1⟩ := bcellV hb1
    clear hb1
    go_wp2
    go_ret
    exact ⟨rfl, B1.out⟩
  rw [leftOf_yes t1] at C1
  have C1' := Lib.hid C1
  clear C1
  have y1 : ¬ lim - ((d.points.length : Int) + bulkPoint d.points) - ((d.segs.length : Int) + bulkSegment d.segs) < 0 := by omega
  rw [leftOf_yes (by omega)] at hr
  have hr' : r = lim - ((d.points.length : Int) + bulkPoint d.points) - ((d.segs.length : Int) + bulkSegment d.segs) := by omega
  clear hr s0 s1
  subst hr'
  go_enter Try.func15, Try.ntmps15
  go_wp2_with fail
  refine (C0'.out _ HAL.out).mono ?_
  rintro e w0 ⟨rfl, hb0⟩
  have B0 := Lib.hid (HAL.out.trans (hb0.mono (by first | exact HAL.out.size | simp)))
  obtain ⟨hc0, hf0⟩ := bcellV hb0
  clear hb0
  go_wp2_with fail
  refine (C1'.out _ B0.out).mono ?_
  rintro e w1 ⟨rfl, hb1⟩
  have B1 := Lib.hid (B0.out.trans (hb1.mono (by first | exact B0.out.size | simp)))
  obtain ⟨hc1, hf1⟩ := bcellV hb1
  clear hb1
  go_wp2
  go_ret
  exact ⟨rfl, B1.out⟩
set_option maxHeartbeats 4000000 in
theorem eqChart_same (va0 va1 vb0 vb1 : Value) (d : ChartD) (w : World) (ha : RdChart w va0 va1 d) (hb : RdChart w vb0 vb1 d) :
    Calls Try.prog 22 #[.agg #[va0, va1], .agg #[vb0, vb1]] w fun e w' => e = .returned (.bool true) ∧ Below w.heap.size w w' := by
  obtain ⟨ha0, ha1⟩ := ha
  obtain ⟨hb0, hb1⟩ := hb
  have HA0 := Lib.hid ha0
  have HB0 := Lib.hid hb0
  have HA1 := Lib.hid ha1
  have HB1 := Lib.hid hb1
  obtain ⟨A0, c0, rfl⟩ := ha0.at
  obtain ⟨D0, k0, rfl⟩ := hb0.at
  obtain ⟨A1, c1, rfl⟩ := ha1.at
  obtain ⟨D1, k1, rfl⟩ := hb1.at
  clear ha0 hb0 ha1 hb1
  have B := Lib.hid (Joins.below_alloc2 w (.cells #[.slice A0 d.points.length c0, .slice A1 d.segs.length c1] 32) (.cells #[.slice D0 d.points.length k0, .slice D1 d.segs.length k1] 32))
  go_enter Try.func22, Try.ntmps22
  go_wp2_with fail
  refine (eqPointS_same _ _ d.points _ (HA0.out.below B.out) (HB0.out.below B.out)).mono ?_
  rintro e w0 ⟨rfl, hb0⟩
  have B0 := Lib.hid (B.out.trans (hb0.mono B.out.size))
  obtain ⟨hc0, hf0⟩ := bcellV hb0
  clear hb0
  go_wp2_with fail
  refine (eqSegmentS_same _ _ d.segs _ (HA1.out.below B0.out) (HB1.out.below B0.out)).mono ?_
  rintro e w1 ⟨rfl, hb1⟩
  have B1 := Lib.hid (B0.out.trans (hb1.mono B0.out.size))
  obtain ⟨hc1, hf1⟩ := bcellV hb1
  clear hb1
  go_wp2
  go_ret
  exact ⟨rfl, B1.out⟩
set_option maxHeartbeats 4000000 in
theorem markChart_any (v0 v1 : Value) (d : ChartD) (k : Int) (a b : Nat) (w : World) (h : RdChart w v0 v1 d) (f0 : FreeV w v0) (f1 : FreeV w v1) (r0 : RangeV v0 a b) (r1 : RangeV v1 a b) (p0_1 : ApartV v0 v1) (h0 : 0 ≤ k) (h1 : k ≤ 10000000) (l0 : d.points.length ≤ 1100000) (l1 : d.segs.length ≤ 1100000) :
    Calls Try.prog 32 #[.agg #[v0, v1], .int .i64 k] w fun e w' => e = .returned (.int .i64 (k + (d.points.length : Int) * 2 + (d.segs.length : Int) * 5)) ∧ MarkedV w' v0 (d.points.length * 2) (mvPoint (k)) ∧ MarkedV w' v1 (d.segs.length * 5) (mvSegment (k + (d.points.length : Int) * 2)) ∧ TouchR w w' a b := by
  obtain ⟨h0, h1⟩ := h
  have hal := Joins.below_alloc1 w (.cells #[v0, v1] 32)
  have K := Lib.hid (Blk.new w #[v0, v1] 32)
  have T0 := Lib.hid (touch_below hal a b)
  have H0 := Lib.hid (h0.below hal)
  have G0 := Lib.hid (f0.below hal)
  have ge0 : ∀ g, v0.ownBlock = some g → g < w.heap.size := fun g hg => (f0 g hg).2
  have H1 := Lib.hid (h1.below hal)
  have G1 := Lib.hid (f1.below hal)
  have ge1 : ∀ g, v1.ownBlock = some g → g < w.heap.size := fun g hg => (f1 g hg).2
  have R0 := Lib.hid r0
  have GE0 := Lib.hid ge0
  have R1 := Lib.hid r1
  have GE1 := Lib.hid ge1
  have AP0_1 := Lib.hid p0_1
  have ms : (w.alloc (.cells #[v0, v1] 32)).heap.size = w.heap.size + 1 := by simp
  obtain ⟨A0, c0, rfl⟩ := h0.at
  obtain ⟨A1, c1, rfl⟩ := h1.at
  clear hal h0 f0 r0 ge0 h1 f1 r1 ge1 p0_1
  go_enter Try.func32, Try.ntmps32
  go_wp2_with fail
  refine (markPointS_any _ d.points (k) _ H0.out (fun g hg => (G0.out g hg).1) (by omega) (by omega) (by omega)).mono ?_
  rintro e w0 ⟨rfl, m0, g0⟩
  have U0 := touch_grown g0 R0.out
  have T1 := Lib.hid (T0.out.trans U0)
  have M0_1 := Lib.hid m0
  have H1_1 := Lib.hid (SlOf.grown H1.out g0 AP0_1.out.ne.1)
  have G1_1 := Lib.hid (FreeV.grown G1.out g0 AP0_1.out.ne.1)
  have K1 := Lib.hid (K.out.grown g0 (fun e => Nat.lt_irrefl _ (GE0.out _ e.symm)))
  clear m0 g0 U0
  have x1_0 := K1.out.cell 0
  have x1_1 := K1.out.cell 1
  simp at x1_0 x1_1
  go_wp2_with fail
  refine (markSegmentS_any _ d.segs (k + (d.points.length : Int) * 2) _ H1_1.out (fun g hg => (G1_1.out g hg).1) (by omega) (by omega) (by omega)).mono ?_
  rintro e w1 ⟨rfl, m1, g1⟩
  have U1 := touch_grown g1 R1.out
  have T2 := Lib.hid (T1.out.trans U1)
  have M1_2 := Lib.hid m1
  have M0_2 := Lib.hid (M0_1.out.grown g1 (AP0_1.out.ne.2))
  have K2 := Lib.hid (K1.out.grown g1 (fun e => Nat.lt_irrefl _ (GE1.out _ e.symm)))
  clear m1 g1 U1 x1_0 x1_1
  go_wp2
  go_ret
  exact ⟨rfl, M0_2.out, M1_2.out, T2.out⟩
/-- The block b holds d over the slices v0 v1. -/
def ChartBox (w : World) (b : Nat) (v0 v1 : Value) (d : ChartD) : Prop := w.cell? ⟨b, 0, none⟩ = some (v0) ∧ w.cell? ⟨b, 1, none⟩ = some (v1) ∧ RdChart w v0 v1 d
theorem ChartBox.below {w w' : World} {b : Nat} {v0 v1 : Value} {d : ChartD} (h : ChartBox w b v0 v1 d) (hb : Below w.heap.size w w') : ChartBox w' b v0 v1 d := by
  obtain ⟨h0, h1, hr⟩ := h
  exact ⟨cell_onV h0 hb, cell_onV h1 hb, hr.below hb⟩
theorem ChartBox.new {w : World} {v0 v1 : Value} {d : ChartD} (t : TypeId) (h : RdChart w v0 v1 d) : ChartBox (w.alloc (.cells #[v0, v1] t)) w.heap.size v0 v1 d := by
  refine ⟨?_, ?_, h.below (Joins.below_alloc1 _ _)⟩
  all_goals (rw [World.cell?_alloc_at _ _ _ _ rfl]; rfl)
theorem NewChart.rd {d : ChartD} {w w' : World} {e : Ending} (h : NewChart d w e w') (hl0 : d.points.length ≤ 1000000000) (hl1 : d.segs.length ≤ 1000000000) :
    ∃ A0 c0 A1 c1, e = .returned (.agg #[.slice A0 d.points.length c0, .slice A1 d.segs.length c1]) ∧ RdChart w' (.slice A0 d.points.length c0) (.slice A1 d.segs.length c1) d ∧ Below w.heap.size w w' := by
  obtain ⟨v0, v1, rfl, o0, o1, _, hb⟩ := h
  have s0 := OwnPoint.sl o0 hl0
  obtain ⟨A0, c0, rfl⟩ := own_form o0
  have s1 := OwnSegment.sl o1 hl1
  obtain ⟨A1, c1, rfl⟩ := own_form o1
  exact ⟨A0, c0, A1, c1, rfl, ⟨s0, s1⟩, hb⟩
section
variable {H : Type} {enc : TypeId × Value → H} {w : World} {base : Nat} {spare : Nat → Bool} {held : Bool}
/-- A value that came in. -/
def ChartIn (w : World) (A0 A1 : Option Addr) (c0 c1 : Nat) (d : ChartD) : Prop := SizChart w A0 A1 c0 c1 d
theorem dec_chart (m : Nat) (cs : List Value) (y : DataW H × List MemPlace) (h : DataW.trod enc Try.prog w base (fun _ => true) held m 58 cs = some y) :
    ∃ A0 c0 A1 c1 d, cs = [.slice A0 d.points.length c0, .slice A1 d.segs.length c1] ∧ ChartIn w A0 A1 c0 c1 d := by
  obtain ⟨hl, hf⟩ := struct_cells Try.underlying58 (by kernel_rfl) (by kernel_rfl) h
  obtain ⟨v0, n0, y0, e0, h0⟩ := hf 0 _ rfl
  obtain ⟨v1, n1, y1, e1, h1⟩ := hf 1 _ rfl
  obtain ⟨A0, c0, a0, rfl, m0, s0, f0⟩ := open_points h0
  obtain ⟨A1, c1, a1, rfl, m1, s1, f1⟩ := open_segments h1
  unfold maxLen at m0
  unfold maxLen at m1
  refine ⟨A0, c0, A1, c1, ⟨a0, a1⟩, ?_, by simp only; omega, s0, f0, by simp only; omega, s1, f1⟩
  match cs, hl with
  | [b0, b1], _ =>
    simp at e0 e1
    subst e0 e1
    rfl
theorem open_chart_arg {r : Reach} {b0 : Nat} {v : Value} {y : DataW H} {ps : List MemPlace} (hval : Value.okWide Try.prog w r b0 58 v) (hd : DataW.Trod enc Try.prog w 0 (fun _ => true) true 58 v y ps) :
    ∃ A0 c0 A1 c1 d, v = .agg #[.slice A0 d.points.length c0, .slice A1 d.segs.length c1] ∧ ChartIn w A0 A1 c0 c1 d := by
  obtain ⟨cs, rfl, hsz⟩ := okWide_struct Try.underlying58 hval
  obtain ⟨fuel, hf⟩ := hd
  obtain ⟨A0, c0, A1, c1, d, hp, g⟩ := dec_chart _ _ _ hf
  refine ⟨A0, c0, A1, c1, d, ?_, g⟩
  obtain ⟨ls⟩ := cs
  simp [Value.cells] at hp
  rw [hp]
end
end Go.Proofs.Ytooeikimoheecaa
