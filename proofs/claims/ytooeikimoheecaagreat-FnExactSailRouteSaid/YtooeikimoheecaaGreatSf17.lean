
/- What ExactSailRoute and ExactFirstSail rests on, part 17: contracts and mathematics. -/
import Derived.Test.YtooeikimoheecaaGreatSf13
import Derived.Test.YtooeikimoheecaaGreatSf7
import Derived.Test.YtooeikimoheecaaGreatSf1
import Derived.Maps.AppendAt
namespace Go.Proofs.YtooeikimoheecaaGreat
open Go.ChangeShapes Go.WideShapes Go.ChangeAt Go.Deep Go.RowKit
set_option maxRecDepth 100000
section
variable {H : Type} {enc : TypeId × Value → H} {w : World} {base : Nat} {held : Bool}
theorem dec_fc (n : Nat) (cs : List Value) (y : DataW H × List MemPlace) (h : DataW.trod enc Tryz.prog w base (fun _ => true) held n 27 cs = some y) :
    ∃ m A c l A' c' s, cs = [.int .i64 m, .slice A l.length c, .slice A' s.length c'] ∧ FcIn w m A c l A' c' s := by
  obtain ⟨xs, n1, _, _, hlen, hxl, hf⟩ := DataW.trod_struct Tryz.underlying27 h
  rw [show Tryz.prog.cellsOf 27 = 3 by kernel_rfl] at hlen
  match cs, hlen with
  | [c0, c1, c2], _ =>
    have h0 : DataW.trod enc Tryz.prog w base (fun _ => true) held n1 24 (([c0, c1, c2].drop 0).take (Tryz.prog.cellsOf 24)) = xs[0]? := hf 0 _ rfl
    have h1 : DataW.trod enc Tryz.prog w base (fun _ => true) held n1 25 (([c0, c1, c2].drop 2).take (Tryz.prog.cellsOf 25)) = xs[1]? := hf 1 _ rfl
    obtain ⟨x0, hx0⟩ : ∃ x, xs[0]? = some x := ⟨_, List.getElem?_eq_getElem (by rw [hxl]; decide)⟩
    obtain ⟨x1, hx1⟩ : ∃ x, xs[1]? = some x := ⟨_, List.getElem?_eq_getElem (by rw [hxl]; decide)⟩
    rw [hx0] at h0
    rw [hx1] at h1
    rw [show Tryz.prog.cellsOf 24 = 2 by kernel_rfl] at h0
    rw [show Tryz.prog.cellsOf 25 = 1 by kernel_rfl] at h1
    obtain ⟨_, g0⟩ := struct_cells Tryz.underlying24 (by kernel_rfl) (by kernel_rfl) h0
    obtain ⟨v0, n2, y0, e0, k0⟩ := g0 0 _ rfl
    obtain ⟨v1, n3, y1, e1, k1⟩ := g0 1 _ rfl
    simp at e0 e1
    subst e0 e1
    obtain ⟨m, hm, _, wm⟩ := DataW.trod_int Tryz.underlying3 k0
    simp only [List.cons.injEq, and_true] at hm
    subst hm
    obtain ⟨A, c, l, rfl, gl⟩ := open_parts k1
    obtain ⟨A', c', s, hs, gs⟩ := open_surges (v := c2) h1
    subst hs
    exact ⟨m, A, c, l, A', c', s, rfl, wm, gl.1, gs.1, gl.2.1, gs.2.1, gl.2.2, gs.2.2⟩
theorem open_fc_arg {r : Reach} {b0 : Nat} {v : Value} {d : DataW H} {ps : List MemPlace} (hval : Value.okWide Tryz.prog w r b0 27 v) (hd : DataW.Trod enc Tryz.prog w 0 (fun _ => true) true 27 v d ps) :
    ∃ m A c l A' c' s, v = .agg #[.int .i64 m, .slice A l.length c, .slice A' s.length c'] ∧ FcIn w m A c l A' c' s := by
  obtain ⟨cs, rfl, hsz⟩ := okWide_struct Tryz.underlying27 hval
  obtain ⟨fuel, hf⟩ := hd
  obtain ⟨m, A, c, l, A', c', s, hp, g⟩ := dec_fc _ _ _ hf
  refine ⟨m, A, c, l, A', c', s, ?_, g⟩
  obtain ⟨ls⟩ := cs
  simp [Value.cells] at hp
  rw [hp]
end
end Go.Proofs.YtooeikimoheecaaGreat
namespace Go.Proofs.YtooeikimoheecaaGreat
open Go.RowKit
set_option maxRecDepth 100000
def Free (w : World) (v : Value) : Prop := ∀ g, v.ownBlock = some g → ∀ j, w.frozen? ⟨g, j, none⟩ = false
theorem Free.below {w w' : World} {v : Value} (h : Free w v) (hl : ∀ g, v.ownBlock = some g → g < w.heap.size) (hb : Below w.heap.size w w') : Free w' v := fun g hg j => (hb.frozen (p := ⟨g, j, none⟩) (hl g hg)).trans (h g hg j)
theorem markTide_any (m : Int) (v : Value) (l : List PartD) (k : Int) (w : World) (h : SlP w v l) (hfz : Free w v) (hlt : ∀ g, v.ownBlock = some g → g < w.heap.size) (h0 : 0 ≤ k) (h1 : k ≤ 100000000) (h2 : l.length ≤ 10000000) :
    Calls Tryz.prog 55 #[.agg #[.int .i64 m, v], .int .i64 k] w fun e w' => e = .returned (.int .i64 (k + (l.length : Int) * 3)) ∧ Marked w' v (l.length * 3) k ∧ w.grownBy w' v.ownBlock := by
  have hal := Joins.below_alloc1 w (.cells #[.int .i64 m, v] 41)
  have C := Lib.hid (markPartS_any v l k (w.alloc (.cells #[.int .i64 m, v] 41)) (h.below hal) (hfz.below hlt hal) h0 h1 h2)
  have HAL := Lib.hid hal
  obtain ⟨A, c, rfl⟩ := h.at
  clear hal h hfz hlt
  go_enter Tryz.func55, Tryz.ntmps55
  go_wp2_with fail
  refine C.out.mono ?_
  rintro e w1 ⟨rfl, hm, hg⟩
  go_wp2
  go_ret
  exact ⟨rfl, hm, (grown_of_below HAL.out _).trans hg⟩
/-- What markForecast leaves. -/
def MarkF (v u : Value) (a b : Nat) (k : Int) (w : World) (e : Ending) (w' : World) : Prop :=
  e = .returned (.int .i64 (k + (a : Int) * 3 + (b : Int) * 3)) ∧ Marked w' v (a * 3) k ∧ Marked w' u (b * 3) (k + (a : Int) * 3) ∧ ∃ w1, w.grownBy w1 v.ownBlock ∧ w1.grownBy w' u.ownBlock
theorem SlSurge.grownS {w w' : World} {v : Value} {l : List SurgeD} {row : Option Nat} (h : SlSurge w v l) (hg : w.grownBy w' row) (hne : v.ownBlock = none ∨ v.ownBlock ≠ row) : SlSurge w' v l := SlOf.grown h hg hne
theorem SlP.grownS {w w' : World} {v : Value} {l : List PartD} {row : Option Nat} (h : SlP w v l) (hg : w.grownBy w' row) (hne : v.ownBlock = none ∨ v.ownBlock ≠ row) : SlP w' v l := SlOf.grown h hg hne
theorem apart_ne {v u : Value} (h : Apart v u) : (u.ownBlock = none ∨ u.ownBlock ≠ v.ownBlock) ∧ (v.ownBlock = none ∨ v.ownBlock ≠ u.ownBlock) := by
  cases hv : v.ownBlock with
  | none => exact ⟨by cases hu : u.ownBlock with | none => exact .inl rfl | some g => exact .inr (by simp), .inl rfl⟩
  | some g => exact ⟨.inr (h g hv), .inr (fun e => h g hv e.symm)⟩
theorem Free.grownS {w w' : World} {v : Value} {row : Option Nat} (h : Free w v) (hl : ∀ g, v.ownBlock = some g → g < w.heap.size) (hg : w.grownBy w' row) (hne : v.ownBlock = none ∨ v.ownBlock ≠ row) : Free w' v := fun g hgv j => by
  have e := hg.block g (hl g hgv) (fun e => by
    rcases hne with hn | hn
    · rw [hgv] at hn; cases hn
    · exact hn (hgv.trans e))
  have := h g hgv j
  simpa [World.frozen?, e] using this
set_option maxHeartbeats 1000000 in
theorem markForecast_any (m : Int) (v u : Value) (l : List PartD) (s : List SurgeD) (k : Int) (w : World) (h : SlP w v l) (h' : SlSurge w u s) (ha : Apart v u) (hfz : Free w v) (hfz' : Free w u) (hlt : ∀ g, v.ownBlock = some g → g < w.heap.size) (hlt' : ∀ g, u.ownBlock = some g → g < w.heap.size) (h0 : 0 ≤ k) (h1 : k ≤ 1000) (h2 : l.length ≤ 10000000) (h3 : s.length ≤ 10000000) :
    Calls Tryz.prog 24 #[.agg #[.int .i64 m, v, u], .int .i64 k] w (MarkF v u l.length s.length k w) := by
  obtain ⟨n1, n2⟩ := apart_ne ha
  have hal := Joins.below_alloc1 w (.cells #[.int .i64 m, v, u] 44)
  have C := Lib.hid (markTide_any m v l k (w.alloc (.cells #[.int .i64 m, v, u] 44)) (h.below hal) (hfz.below hlt hal) (fun g hg => Nat.lt_of_lt_of_le (hlt g hg) hal.size) h0 (by omega) h2)
  have C2 : ∀ w1, (w.alloc (.cells #[.int .i64 m, v, u] 44)).grownBy w1 v.ownBlock → Hid (Calls Tryz.prog 56 #[u, .int .i64 (k + (l.length : Int) * 3)] w1 fun e w' => e = .returned (.int .i64 (k + (l.length : Int) * 3 + (s.length : Int) * 3)) ∧ Marked w' u (s.length * 3) (k + (l.length : Int) * 3) ∧ w1.grownBy w' u.ownBlock) := fun w1 hg =>
    Lib.hid (markSurgeS_any u s (k + (l.length : Int) * 3) w1 ((h'.below hal).grownS hg n1) ((hfz'.below hlt' hal).grownS (fun g hg => Nat.lt_of_lt_of_le (hlt' g hg) hal.size) hg n1) (by omega) (by omega) h3)
  have B0 := Blk.new w #[.int .i64 m, v, u] 44
  have X : ∀ w1, (w.alloc (.cells #[.int .i64 m, v, u] 44)).grownBy w1 v.ownBlock → w1.cell? ⟨w.heap.size, 2, none⟩ = some u := fun w1 hg => (B0.grown hg (fun e => by have := hlt _ e.symm; omega)).cell 2
  have HX := Lib.hid X
  have HAL := Lib.hid hal
  have N2 := Lib.hid n2
  obtain ⟨A, c, rfl⟩ := h.at
  obtain ⟨A', c', rfl⟩ := h'.at
  clear hal h hfz hlt h' hfz' hlt' n1 n2 B0 X ha
  go_enter Tryz.func24, Tryz.ntmps24
  go_wp2_with fail
  refine C.out.mono ?_
  rintro e w1 ⟨rfl, hm, hg⟩
  have C3 := C2 w1 hg
  have hx := HX.out w1 hg
  have HM := Lib.hid hm
  have HG := Lib.hid hg
  clear C C2 hm hg
  go_wp2_with fail
  refine C3.out.mono ?_
  rintro e w2 ⟨rfl, hm2, hg2⟩
  have HM2 := Lib.hid hm2
  have HG2 := Lib.hid hg2
  clear hm2 hg2 hx
  go_wp2
  go_ret
  exact ⟨rfl, HM.out.grown HG2.out N2.out, HM2.out, w1, (grown_of_below HAL.out _).trans HG.out, HG2.out⟩
end Go.Proofs.YtooeikimoheecaaGreat
namespace Go.Proofs.YtooeikimoheecaaGreat
set_option maxRecDepth 100000
theorem other_in {n : Nat} {g : SegmentD} {z : Int} (hs : segB n g = true) (h : ¬ otherI g z < 0) : 0 ≤ otherI g z ∧ otherI g z < n := by
  obtain ⟨a0, a1, b0, b1, -⟩ := segB_true hs
  unfold otherI at h ⊢
  split at h
  · rename_i e; rw [if_pos e]; omega
  · rename_i e
    rw [if_neg e]
    split at h
    · rename_i e2; rw [if_pos e2]; omega
    · omega
/-- The points of a route are points of the chart, and its segments are segments. -/
theorem pts_facts {d : ChartD} {fr : Int} (hd : chartB d = true) (hf : inB fr 0 ((d.points.length : Int) - 1) = true) (l : List Int) : ∀ {out : List Int}, ptsO d fr l = some out → (∀ p ∈ out, 0 ≤ p ∧ p < d.points.length) ∧ (∀ i ∈ l, ∃ g, segAt d i = some g ∧ d.segs[i.toNat]? = some g ∧ 0 ≤ i ∧ i.toNat < d.segs.length) := by
  refine snocInd (P := fun l => ∀ {out : List Int}, ptsO d fr l = some out → (∀ p ∈ out, 0 ≤ p ∧ p < d.points.length) ∧ (∀ i ∈ l, ∃ g, segAt d i = some g ∧ d.segs[i.toNat]? = some g ∧ 0 ≤ i ∧ i.toNat < d.segs.length)) ?_ ?_ l
  · intro out h
    have hf' := of_decide_eq_true (show decide (0 ≤ fr ∧ fr ≤ (d.points.length : Int) - 1) = true from hf)
    simp [ptsO] at h
    subst h
    exact ⟨fun p hp => by simp at hp; subst hp; omega, fun i hi => by simp at hi⟩
  · intro l i ih out h
    rw [ptsO_snoc] at h
    cases hp : ptsO d fr l with
    | none => rw [hp] at h; cases h
    | some o =>
      obtain ⟨h1, h2⟩ := ih hp
      rw [hp] at h
      unfold stepP at h
      cases hs : segAt d i with
      | none => rw [hs] at h; cases h
      | some g =>
        have hin : inB i 0 ((d.segs.length : Int) - 1) = true := by
          cases hb : inB i 0 ((d.segs.length : Int) - 1) with
          | true => rfl
          | false => rw [segAt_out hb] at hs; cases hs
        obtain ⟨g', hg', hx, i0, il⟩ := segAt_in hin
        obtain rfl : g' = g := by rw [hs] at hg'; injection hg' with e; exact e.symm
        rw [hs] at h
        simp only at h
        split at h
        · cases h
        · rename_i hn
          injection h with e
          subst e
          refine ⟨fun p hp => ?_, fun j hj => ?_⟩
          · rcases List.mem_append.1 hp with hp | hp
            · exact h1 p hp
            · simp at hp
              subst hp
              exact other_in (chartB_seg hd hx) (fun hlt => hn (.inl hlt))
          · rcases List.mem_append.1 hj with hj | hj
            · exact h2 j hj
            · simp at hj
              subst hj
              exact ⟨g', hs, hx, i0, il⟩
theorem route_facts {d : ChartD} {fr : Int} {l : List Int} (h : routeB d fr l = true) : chartB d = true ∧ (rteL d fr l).length = l.length + 1 ∧ (∀ p ∈ rteL d fr l, 0 ≤ p ∧ p < d.points.length) ∧ (∀ i ∈ l, ∃ g, segAt d i = some g ∧ d.segs[i.toNat]? = some g ∧ 0 ≤ i ∧ i.toNat < d.segs.length) := by
  have e : rteL d fr l = (ptsO d fr l).getD [] := if_pos h
  unfold routeB at h
  simp only [Bool.and_eq_true] at h
  obtain ⟨⟨h1, h2⟩, h3⟩ := h
  obtain ⟨out, ho⟩ := Option.isSome_iff_exists.1 h3
  rw [e, ho]
  obtain ⟨q1, q2⟩ := pts_facts h1 h2 l ho
  exact ⟨h1, ptsO_len l ho, q1, q2⟩
end Go.Proofs.YtooeikimoheecaaGreat
