
/- What LocksLaw rests on, part 7: contracts and mathematics. -/
import Derived.Test.YtlddampjbmklkaaLk0
import Derived.Test.YtlddampjbmklkaaLk1
import Derived.Test.YtlddampjbmklkaaLk2
import Derived.Test.YtlddampjbmklkaaLk3
import Derived.Test.YtlddampjbmklkaaLk5
import Derived.Deep.AppendLies
import Derived.Deep.RegionLaw
import Derived.Deep.DeepCutAuto
import Derived.Test.YtlddampjbmklkaaLk6
import Derived.Test.YtlddampjbmklkaaLk4
namespace Go.Proofs.Ytlddampjbmklkaa
open Go.RowKit
set_option maxRecDepth 100000
def chamGood (d : ChamberD) : Prop := 150 ≤ d.length ∧ d.length < 400 ∧ 1 ≤ d.lanes ∧ d.lanes ≤ 2 ∧ 10 ≤ d.minutes ∧ d.minutes < 40
set_option maxHeartbeats 4000000 in
theorem l10Chamber_any (p : Nat) (w : World) (hcur : Cursor w p) : Calls Try.prog 66 #[.pointer (some ⟨p, 0, none⟩)] w fun e w' => ∃ d : ChamberD, e = .returned d.val ∧ chamGood d ∧ Cursor w' p ∧ w.grownBy w' (some p) := by
  have hb0 := Joins.below_alloc1 w (.cells #[.int .i64 0, .int .i64 0, .int .i64 0] 24)
  have C := Lib.hid (l01Below_any p 250 _ (by omega) (by omega) (hcur.below hb0))
  have hp := hcur.lt
  have G0 := Lib.hid (grown_alloc w (.cells #[.int .i64 0, .int .i64 0, .int .i64 0] 24) (some p))
  have K0 := Lib.hid (Blk.new w #[.int .i64 0, .int .i64 0, .int .i64 0] 24)
  have HNP := Lib.hid (show some w.heap.size ≠ some p by simp; omega)
  clear hcur hb0
  go_enter Try.func66, Try.ntmps66
  go_wp2_with fail
  refine C.out.mono ?_
  rintro e w1 ⟨x, rfl, x0, x1, hc1, hg1⟩
  have HC1 := Lib.hid hc1
  have G1 := Lib.hid (grown_trans G0.out hg1)
  have K1 := Lib.hid (K0.out.grown hg1 HNP.out)
  clear hc1 hg1 C
  go_wp2_with fail
  refine (l01Below_any p 2 _ (by omega) (by omega) HC1.out).mono ?_
  rintro e w2 ⟨y, rfl, y0, y1, hc2, hg2⟩
  have HC2 := Lib.hid hc2
  have G2 := Lib.hid (grown_trans G1.out hg2)
  have K2 := Lib.hid (K1.out.grown hg2 HNP.out)
  clear hc2 hg2
  go_wp2_with fail
  refine (l01Below_any p 30 _ (by omega) (by omega) HC2.out).mono ?_
  rintro e w3 ⟨z, rfl, z0, z1, hc3, hg3⟩
  have HC3 := Lib.hid hc3
  have G3 := Lib.hid (grown_trans G2.out hg3)
  have K3 := K2.out.grown hg3 HNP.out
  have k0 := K3.cell 0
  have k1 := K3.cell 1
  have k2 := K3.cell 2
  simp at k0 k1 k2
  have f0 : w3.frozen? ⟨w.heap.size, 0, none⟩ = false := K3.free 0
  have f1 : w3.frozen? ⟨w.heap.size, 1, none⟩ = false := K3.free 1
  have f2 : w3.frozen? ⟨w.heap.size, 2, none⟩ = false := K3.free 2
  have wx : IntKind.i64.wrap (150 + x) = 150 + x := by rw [IntKind.wrap_i64]; omega
  have wy : IntKind.i64.wrap (1 + y) = 1 + y := by rw [IntKind.wrap_i64]; omega
  have wz : IntKind.i64.wrap (10 + z) = 10 + z := by rw [IntKind.wrap_i64]; omega
  clear hc3 hg3 K3
  go_wp2
  refine bodyPost_ret (v := .agg #[.int .i64 (150 + x), .int .i64 (1 + y), .int .i64 (10 + z)]) (by simp [results, Try.results66, go_sem, *]) rfl ⟨⟨150 + x, 1 + y, 10 + z⟩, rfl, by unfold chamGood; simp only; omega, ?_, ?_⟩
  · exact ((HC3.out.set hp _ _).set hp _ _).set hp _ _
  · exact grown_setNew (grown_setNew (grown_setNew G3.out (Nat.le_refl _) _) (Nat.le_refl _) _) (Nat.le_refl _) _
section
variable {w wr w3 : World} {p b5 : Nat} {d : ChamberD} {v : Value} {l : List Int}
end
end Go.Proofs.Ytlddampjbmklkaa
namespace Go.Proofs.Ytlddampjbmklkaa
open Go.RowKit
set_option maxRecDepth 100000
theorem str_none (t : ByteArray) : t ++ ⟨#[]⟩ = t := by apply ba_ext; simp [ByteArray.data_append]
theorem specFormat1 (n : Int) (w : World) (h0 : 0 ≤ n) (h1 : n ≤ 9) :
    Calls Try.prog 88 #[.int .i64 n] w fun e w' => e = .returned (.string (strOfNums [48 + n])) ∧ Below w.heap.size w w' := by
  go_enter Try.func88, Try.ntmps88
  go_wp2
  go_loopw [0, 3] (fun i q wr => ∃ t : ByteArray, i = .int .i64 n ∧ q = .string t ∧ Hid (t = ⟨#[]⟩) ∧ t.size ≤ 21 ∧ Below w.heap.size w wr) (fun _ _ _ => 0)
  case atStart => exact ⟨_, rfl, rfl, Lib.hid rfl, by simp [ByteArray.size], Below.refl _ _⟩
  case round =>
    obtain ⟨t, rfl, rfl, he, htz, hb⟩ := hrel
    have hsz := hb.size
    have hcv := conv_one wr (48 + n)
    have hs1 := strOfNums_size [48 + n]
    simp only [List.length_cons, List.length_nil] at hs1
    go_wp2
    go_ret
    refine ⟨ret_str ?_, hb.alloc hsz _⟩
    rw [he.out, str_none]
def shipName (i : Nat) : ByteArray := ⟨#[115]⟩ ++ strOfNums [48 + (i : Int)]
def shipGood (i : Nat) (d : ShipD) : Prop := d.name = shipName i ∧ 40 ≤ d.length ∧ d.length < 240 ∧ 600 ≤ d.draught ∧ d.draught < 1100 ∧ 0 ≤ d.line ∧ d.line < 4 ∧ 0 ≤ d.tugs ∧ d.tugs < 3
/-- What a drawn ship leaves. -/
def DrawsShip (p i : Nat) (w : World) (e : Ending) (w' : World) : Prop := ∃ d : ShipD, e = .returned d.val ∧ shipGood i d ∧ Cursor w' p ∧ w.grownBy w' (some p)
set_option maxHeartbeats 2000000 in
theorem l06Ship_any (p i : Nat) (w : World) (hi : i ≤ 9) (hcur : Cursor w p) : Calls Try.prog 81 #[.pointer (some ⟨p, 0, none⟩), .int .i64 (i : Int)] w (DrawsShip p i w) := by
  have hb0 := Joins.below_alloc1 w (.cells #[.string ⟨#[]⟩, .int .i64 0, .int .i64 0, .int .i64 0, .int .i64 0, .bool false] 36)
  have hp := hcur.lt
  have G0 := Lib.hid (grown_alloc w (.cells #[.string ⟨#[]⟩, .int .i64 0, .int .i64 0, .int .i64 0, .int .i64 0, .bool false] 36) (some p))
  have K0 := Lib.hid (Blk.new w #[.string ⟨#[]⟩, .int .i64 0, .int .i64 0, .int .i64 0, .int .i64 0, .bool false] 36)
  have HC0 := Lib.hid (hcur.below hb0)
  have HNP := Lib.hid (show some w.heap.size ≠ some p by simp; omega)
  have hs1 := strOfNums_size [48 + (i : Int)]
  simp only [List.length_cons, List.length_nil] at hs1
  clear hcur hb0
  go_enter Try.func81, Try.ntmps81
  go_wp2_with fail
  refine (specFormat1 (i : Int) _ (by omega) (by omega)).mono ?_
  rintro e w1 ⟨rfl, hb1⟩
  have hsz1 : w.heap.size + 1 ≤ w1.heap.size := by have := hb1.size; simpa using this
  have HC1 := Lib.hid (HC0.out.below hb1)
  have G1 := Lib.hid (grown_trans G0.out (grown_of_below hb1 (some p)))
  have K1 := Lib.hid (K0.out.below hb1)
  clear hb1 HC0 G0 K0
  go_wp2_with fail
  refine (l01Below_any p 200 _ (by omega) (by omega) HC1.out).mono ?_
  rintro e w2 ⟨x, rfl, x0, x1, hc, hg⟩
  have hsz2 : w.heap.size + 1 ≤ w2.heap.size := Nat.le_trans hsz1 hg.size
  have HC2 := Lib.hid hc
  have G2 := Lib.hid (grown_trans G1.out hg)
  have K2 := Lib.hid (K1.out.grown hg HNP.out)
  clear hc hg HC1 G1 K1
  go_wp2_with fail
  refine (l01Below_any p 500 _ (by omega) (by omega) HC2.out).mono ?_
  rintro e w3 ⟨y, rfl, y0, y1, hc, hg⟩
  have hsz3 : w.heap.size + 1 ≤ w3.heap.size := Nat.le_trans hsz2 hg.size
  have HC3 := Lib.hid hc
  have G3 := Lib.hid (grown_trans G2.out hg)
  have K3 := Lib.hid (K2.out.grown hg HNP.out)
  clear hc hg HC2 G2 K2
  go_wp2_with fail
  refine (l01Below_any p 4 _ (by omega) (by omega) HC3.out).mono ?_
  rintro e w4 ⟨z, rfl, z0, z1, hc, hg⟩
  have hsz4 : w.heap.size + 1 ≤ w4.heap.size := Nat.le_trans hsz3 hg.size
  have HC4 := Lib.hid hc
  have G4 := Lib.hid (grown_trans G3.out hg)
  have K4 := Lib.hid (K3.out.grown hg HNP.out)
  clear hc hg HC3 G3 K3
  go_wp2_with fail
  refine (l01Below_any p 3 _ (by omega) (by omega) HC4.out).mono ?_
  rintro e w5 ⟨u, rfl, u0, u1, hc, hg⟩
  have hsz5 : w.heap.size + 1 ≤ w5.heap.size := Nat.le_trans hsz4 hg.size
  have HC5 := Lib.hid hc
  have G5 := Lib.hid (grown_trans G4.out hg)
  have K5 := Lib.hid (K4.out.grown hg HNP.out)
  clear hc hg HC4 G4 K4
  go_wp2_with fail
  refine (l01Once_any p 4 _ (by omega) (by omega) HC5.out).mono ?_
  rintro e w6 ⟨b, rfl, hc, hg⟩
  have HC6 := Lib.hid hc
  have G6 := Lib.hid (grown_trans G5.out hg)
  have K6 := K5.out.grown hg HNP.out
  have hsz6 : w.heap.size < w6.heap.size := K6.lt
  have k0 := K6.cell 0
  have f0 : w6.frozen? ⟨w.heap.size, 0, none⟩ = false := K6.free 0
  have k1 := K6.cell 1
  have f1 : w6.frozen? ⟨w.heap.size, 1, none⟩ = false := K6.free 1
  have k2 := K6.cell 2
  have f2 : w6.frozen? ⟨w.heap.size, 2, none⟩ = false := K6.free 2
  have k3 := K6.cell 3
  have f3 : w6.frozen? ⟨w.heap.size, 3, none⟩ = false := K6.free 3
  have k4 := K6.cell 4
  have f4 : w6.frozen? ⟨w.heap.size, 4, none⟩ = false := K6.free 4
  have k5 := K6.cell 5
  have f5 : w6.frozen? ⟨w.heap.size, 5, none⟩ = false := K6.free 5
  simp at k0 k1 k2 k3 k4 k5
  clear hc hg HC5 G5 K5 K6
  go_wp2
  refine bodyPost_ret (v := .agg #[.string (⟨#[115]⟩ ++ strOfNums [48 + (i : Int)]), .int .i64 (40 + x), .int .i64 (600 + y), .int .i64 z, .int .i64 u, .bool b]) (by simp [results, Try.results81, go_sem, *]) rfl ⟨⟨_, _, _, _, _, _⟩, rfl, ⟨rfl, by show 40 ≤ 40 + x; omega, by show 40 + x < 240; omega, by show 600 ≤ 600 + y; omega, by show 600 + y < 1100; omega, z0, z1, u0, u1⟩, ?_, ?_⟩
  · exact (((((HC6.out.set hp _ _).set hp _ _).set hp _ _).set hp _ _).set hp _ _).set hp _ _
  · exact grown_setNew (grown_setNew (grown_setNew (grown_setNew (grown_setNew (grown_setNew G6.out (Nat.le_refl _) _) (Nat.le_refl _) _) (Nat.le_refl _) _) (Nat.le_refl _) _) (Nat.le_refl _) _) (Nat.le_refl _) _
/-- What holds at each round of l06Fleet. -/
def FlDraw (w : World) (p : Nat) (v : Value) (l : List ShipD) (wr : World) : Prop := Cursor wr p ∧ w.grownBy wr (some p) ∧ OwnShip wr w.heap.size v l ∧ (∀ j x, l[j]? = some x → shipGood j x) ∧ p < w.heap.size
theorem FlDraw.step {w wr w3 : World} {p : Nat} {v : Value} {l : List ShipD} (h : FlDraw w p v l wr) (hg : wr.grownBy w3 (some p)) (hc : Cursor w3 p) : FlDraw w p v l w3 := by
  obtain ⟨h1, h2, h3, h4, h5⟩ := h
  exact ⟨hc, grown_trans h2 hg, own_kept h3 hg (fun b hv e => by have := (own_ge h3 hv).1; have := Option.some.inj e; omega), h4, h5⟩
theorem FlDraw.below {w wr w3 : World} {p : Nat} {v : Value} {l : List ShipD} (h : FlDraw w p v l wr) (hb : Below wr.heap.size wr w3) : FlDraw w p v l w3 := by
  obtain ⟨h1, h2, h3, h4, h5⟩ := h
  exact ⟨h1.below hb, grown_trans h2 (grown_of_below hb _), own_below h3 hb, h4, h5⟩
theorem FlDraw.app {w wr w4 : World} {p : Nat} {v : Value} {l : List ShipD} {d : ShipD} {g4 cap4 : Nat} (h : FlDraw w p v l wr) (hd : shipGood l.length d)
    (hown : w4.ownsRow w.heap.size 36 6 (.slice (some ⟨g4, 0, none⟩) (l.length + 1) cap4) (l.length + 1) (l.flatMap ShipD.cells ++ d.cells)) (hgr : wr.grownBy w4 v.ownBlock) : FlDraw w p (.slice (some ⟨g4, 0, none⟩) (l.length + 1) cap4) (l ++ [d]) w4 := by
  obtain ⟨h1, h2, h3, h4, h5⟩ := h
  have r0 : ∀ b, v.ownBlock = some b → w.heap.size ≤ b := fun b hv => (own_ge h3 hv).1
  refine ⟨h1.grown hgr (fun b hv => by have := r0 b hv; omega), grown_young h2 hgr r0, ?_, fun j x hx => ?_, h5⟩
  · show World.ownsRow _ _ _ _ _ _ _
    have e : (l ++ [d]).flatMap ShipD.cells = l.flatMap ShipD.cells ++ d.cells := by simp
    rw [e]
    simpa using hown
  · rw [List.getElem?_append] at hx
    split at hx
    · exact h4 j x hx
    · rename_i hj
      cases hjj : j - l.length with
      | zero => rw [hjj] at hx; simp at hx; subst hx; have e : j = l.length := by omega
                rw [e]; exact hd
      | succ m => rw [hjj] at hx; simp at hx
/-- What a drawn fleet leaves. -/
def DrawsFleetN (m p : Nat) (w : World) (e : Ending) (w' : World) : Prop := ∃ (A : Option Addr) (c : Nat) (l : List ShipD), e = .returned (.slice A l.length c) ∧ 1 ≤ l.length ∧ l.length ≤ m ∧ FlDraw w p (.slice A l.length c) l w'
set_option maxHeartbeats 4000000 in
theorem l06FleetN_any (m p : Nat) (w : World) (hcur : Cursor w p) (hm1 : 1 ≤ m) (hm6 : m ≤ 6) : Calls Try.prog 67 #[.pointer (some ⟨p, 0, none⟩), .int .i64 (m : Int)] w (DrawsFleetN m p w) := by
  have hp := hcur.lt
  obtain ⟨i0, hi, hz0, hz1, hz2⟩ := info_parts info_ship
  have HI := Lib.hid (And.intro hi (And.intro hz0 (And.intro hz1 hz2)))
  have hal := Joins.below_alloc1 w (.cells #[] 36)
  have C := Lib.hid (l01Below_any p (m : Int) _ (by omega) (by omega) (hcur.below hal))
  have ST0 := Lib.hid (show FlDraw w p (.slice (some ⟨w.heap.size, 0, none⟩) 0 0) [] (w.alloc (.cells #[] 36)) from
    ⟨hcur.below hal, grown_of_below hal _, (GathO.made (cs := ShipD.cells) (t := 36) (k := 6) (Below.refl w.heap.size w)).1, fun j x hx => by simp at hx, hp⟩)
  clear hi hz0 hz1 hz2 hcur hal
  go_enter Try.func67, Try.ntmps67
  go_wp2_with fail
  refine C.out.mono ?_
  rintro e w1 ⟨n, rfl, n0, n1, hc, hg⟩
  have ST1 := Lib.hid (ST0.out.step hg hc)
  clear hc hg C ST0
  go_wp2
  go_loopw [5, 6] (fun q i wr => ∃ (k : Nat) (v : Value) (l : List ShipD), l.length + k ≤ m ∧ 0 < l.length + k ∧ i = .int .i64 k ∧ q = v ∧ Hid (FlDraw w p v l wr)) (fun _ i _ => (intOf i).toNat)
  case atStart => exact ⟨(1 + n).toNat, _, [], by simp; omega, by simp; omega, by simp; omega, rfl, ST1⟩
  case round =>
    obtain ⟨k, v, l, hlk, hpos, rfl, rfl, hD⟩ := hrel
    have hps : p < w.heap.size := hD.out.2.2.2.2
    obtain ⟨A, c, rfl⟩ := own_form hD.out.2.2.1
    by_cases hk : 0 < k
    · go_wp2_with fail
      refine (l06Ship_any p l.length _ (by omega) hD.out.1).mono ?_
      rintro e w3 ⟨d, rfl, hd, hc, hg⟩
      have SD := Lib.hid (hD.out.step hg hc)
      have HD := Lib.hid hd
      have AL := Lib.hid (SD.out.below (Joins.below_alloc1 w3 (.cells #[.string d.name, .int .i64 d.length, .int .i64 d.draught, .int .i64 d.line, .int .i64 d.tugs, .bool d.slow] 36)))
      have HN := Lib.hid (World.news_of_block (heap_alloc_new w3 (.cells #[.string d.name, .int .i64 d.length, .int .i64 d.draught, .int .i64 d.line, .int .i64 d.tugs, .bool d.slow] 36)))
      have hsz : w.heap.size ≤ w3.heap.size + 1 := by have := SD.out.2.1.size; omega
      have hi := HI.out
      clear hc hg hd hD
      go_wp2_with (at_builtin; refine wpList_append_lies _ rfl _ _ _ rfl w.heap.size 36 i0 _ 6 56 Try.underlying25 hi.1 hi.2.1 hi.2.2.1 hi.2.2.2 rfl (by omega) (.slice A l.length c) l.length (l.flatMap ShipD.cells) rfl AL.out.2.2.1 ⟨w3.heap.size, 0, none⟩ 1 1 d.cells (by first | rfl | simp) rfl HN.out (ship_one d) (by omega) (by unfold maxLen; omega) (by omega) (by first | omega | (simp; omega)) _ rfl ?_; intro g4 cap4 w4 hown4 hgrow4 hor4 hlt4; have GX := Lib.hid (AL.out.app HD.out hown4 hgrow4); clear hown4 hgrow4 hor4 hlt4)
      go_roundw
      case rel => exact ⟨k - 1, _, l ++ [d], by simp; omega, by simp; omega, by go_num, rfl, GX⟩
      case measure => simp [intOf]; omega
    · go_wp2
      go_ret
      exact ⟨A, c, l, rfl, by omega, by omega, hD.out⟩
theorem names_digit (i : Nat) (hi : i ≤ 5) : nameB (shipName i) = true := by
  match i, hi with
  | 0, _ => show nameB (shipName 0) = true; kernel_rfl
  | 1, _ => show nameB (shipName 1) = true; kernel_rfl
  | 2, _ => show nameB (shipName 2) = true; kernel_rfl
  | 3, _ => show nameB (shipName 3) = true; kernel_rfl
  | 4, _ => show nameB (shipName 4) = true; kernel_rfl
  | 5, _ => show nameB (shipName 5) = true; kernel_rfl
theorem names_apart : ∀ i j : Nat, i ≤ 5 → j ≤ 5 → i ≠ j → (((shipName i).toList == (shipName j).toList) = false) := by
  intro i j hi hj hne
  rw [ByteArray.toList_eq, ByteArray.toList_eq]
  match i, hi, j, hj with
  | 0, _, 1, _ => show ((shipName 0).data.toList == (shipName 1).data.toList) = false; kernel_rfl
  | 0, _, 2, _ => show ((shipName 0).data.toList == (shipName 2).data.toList) = false; kernel_rfl
  | 0, _, 3, _ => show ((shipName 0).data.toList == (shipName 3).data.toList) = false; kernel_rfl
  | 0, _, 4, _ => show ((shipName 0).data.toList == (shipName 4).data.toList) = false; kernel_rfl
  | 0, _, 5, _ => show ((shipName 0).data.toList == (shipName 5).data.toList) = false; kernel_rfl
  | 1, _, 0, _ => show ((shipName 1).data.toList == (shipName 0).data.toList) = false; kernel_rfl
  | 1, _, 2, _ => show ((shipName 1).data.toList == (shipName 2).data.toList) = false; kernel_rfl
  | 1, _, 3, _ => show ((shipName 1).data.toList == (shipName 3).data.toList) = false; kernel_rfl
  | 1, _, 4, _ => show ((shipName 1).data.toList == (shipName 4).data.toList) = false; kernel_rfl
  | 1, _, 5, _ => show ((shipName 1).data.toList == (shipName 5).data.toList) = false; kernel_rfl
  | 2, _, 0, _ => show ((shipName 2).data.toList == (shipName 0).data.toList) = false; kernel_rfl
  | 2, _, 1, _ => show ((shipName 2).data.toList == (shipName 1).data.toList) = false; kernel_rfl
  | 2, _, 3, _ => show ((shipName 2).data.toList == (shipName 3).data.toList) = false; kernel_rfl
  | 2, _, 4, _ => show ((shipName 2).data.toList == (shipName 4).data.toList) = false; kernel_rfl
  | 2, _, 5, _ => show ((shipName 2).data.toList == (shipName 5).data.toList) = false; kernel_rfl
  | 3, _, 0, _ => show ((shipName 3).data.toList == (shipName 0).data.toList) = false; kernel_rfl
  | 3, _, 1, _ => show ((shipName 3).data.toList == (shipName 1).data.toList) = false; kernel_rfl
  | 3, _, 2, _ => show ((shipName 3).data.toList == (shipName 2).data.toList) = false; kernel_rfl
  | 3, _, 4, _ => show ((shipName 3).data.toList == (shipName 4).data.toList) = false; kernel_rfl
  | 3, _, 5, _ => show ((shipName 3).data.toList == (shipName 5).data.toList) = false; kernel_rfl
  | 4, _, 0, _ => show ((shipName 4).data.toList == (shipName 0).data.toList) = false; kernel_rfl
  | 4, _, 1, _ => show ((shipName 4).data.toList == (shipName 1).data.toList) = false; kernel_rfl
  | 4, _, 2, _ => show ((shipName 4).data.toList == (shipName 2).data.toList) = false; kernel_rfl
  | 4, _, 3, _ => show ((shipName 4).data.toList == (shipName 3).data.toList) = false; kernel_rfl
  | 4, _, 5, _ => show ((shipName 4).data.toList == (shipName 5).data.toList) = false; kernel_rfl
  | 5, _, 0, _ => show ((shipName 5).data.toList == (shipName 0).data.toList) = false; kernel_rfl
  | 5, _, 1, _ => show ((shipName 5).data.toList == (shipName 1).data.toList) = false; kernel_rfl
  | 5, _, 2, _ => show ((shipName 5).data.toList == (shipName 2).data.toList) = false; kernel_rfl
  | 5, _, 3, _ => show ((shipName 5).data.toList == (shipName 3).data.toList) = false; kernel_rfl
  | 5, _, 4, _ => show ((shipName 5).data.toList == (shipName 4).data.toList) = false; kernel_rfl
  | 0, _, 0, _ => exact absurd rfl hne
  | 1, _, 1, _ => exact absurd rfl hne
  | 2, _, 2, _ => exact absurd rfl hne
  | 3, _, 3, _ => exact absurd rfl hne
  | 4, _, 4, _ => exact absurd rfl hne
  | 5, _, 5, _ => exact absurd rfl hne
end Go.Proofs.Ytlddampjbmklkaa
namespace Go.Proofs.Ytlddampjbmklkaa
open Go.RowKit
set_option maxRecDepth 100000
theorem lockD_at {rows : List LockR} {k : Nat} {x : LockR} (h : rows[k]? = some x) : (rows.map LockR.d)[k]? = some x.d := by rw [List.getElem?_map, h]; rfl
def emptyN (l : List LockD) : Int := ((l.countP (fun g => g.ships.length == 0) : Nat) : Int)
theorem emptyN_next {l : List LockD} {k : Nat} {x : LockD} (h : l[k]? = some x) : emptyN (l.take (k + 1)) = emptyN (l.take k) + if x.ships.length = 0 then 1 else 0 := by
  unfold emptyN
  rw [take_snoc' l k x h, List.countP_append]
  by_cases e : x.ships.length = 0 <;> simp [e]
theorem emptyN_le (l : List LockD) (k : Nat) : 0 ≤ emptyN (l.take k) ∧ emptyN (l.take k) ≤ l.length := by
  unfold emptyN
  have h := List.countP_le_length (p := fun g : LockD => g.ships.length == 0) (l := l.take k)
  have h2 : (l.take k).length ≤ l.length := by rw [List.length_take]; omega
  omega
def lockHit (ship : Int) (up : Bool) (g : LockD) : Bool := (g.up == up) && g.ships.any (· == ship)
def lockedI (l : List LockD) (ship : Int) (up : Bool) : Int := match l.find? (lockHit ship up) with
  | some g => g.start
  | none => -1
theorem lockedI_at {l : List LockD} {ship : Int} {up : Bool} {k : Nat} {x : LockD} (h : NoOne (lockHit ship up) l k) (hx : l[k]? = some x) (hp : lockHit ship up x = true) : lockedI l ship up = x.start := by
  have : l.find? (lockHit ship up) = some x := by
    rw [List.find?_eq_some_iff_getElem]
    obtain ⟨hk, rfl⟩ := List.getElem?_eq_some_iff.1 hx
    exact ⟨hp, k, hk, rfl, fun j hj => by rw [h j hj _ (List.getElem?_eq_getElem (by omega))]; rfl⟩
  unfold lockedI
  rw [this]
theorem lockedI_none {l : List LockD} {ship : Int} {up : Bool} (h : NoOne (lockHit ship up) l l.length) : lockedI l ship up = -1 := by
  have : l.find? (lockHit ship up) = none := by
    rw [List.find?_eq_none]
    intro x hx
    obtain ⟨j, hj⟩ := List.getElem?_of_mem hx
    have h := h j (List.getElem?_eq_some_iff.1 hj).1 x hj
    simpa using h
  unfold lockedI
  rw [this]
def lockOrd (l : List LockD) (up : Bool) : List Int := l.flatMap (fun g => if g.up = up then g.ships else [])
theorem lockOrd_next {l : List LockD} {up : Bool} {k : Nat} {x : LockD} (h : l[k]? = some x) : lockOrd (l.take (k + 1)) up = lockOrd (l.take k) up ++ if x.up = up then x.ships else [] := by
  unfold lockOrd
  rw [take_snoc' l k x h, List.flatMap_append]
  simp
def nextI (k : ChamberD) (l : List LockD) (up : Bool) (ready : Int) : Int := if chamB k = true ∧ inB ready 0 2880 = true then
    match l.getLast? with
    | none => ready
    | some g => if inB g.start 0 2880 = true then (if g.up = up then max ready (g.start + 2 * k.minutes) else max ready (g.start + k.minutes)) else -1
  else -1
theorem nextI_bad {k : ChamberD} {l : List LockD} {up : Bool} {ready : Int} (h : ¬ (chamB k = true ∧ inB ready 0 2880 = true)) : nextI k l up ready = -1 := if_neg h
theorem nextI_ok {k : ChamberD} {l : List LockD} {up : Bool} {ready : Int} (h1 : chamB k = true) (h2 : inB ready 0 2880 = true) : nextI k l up ready = (match l.getLast? with
    | none => ready
    | some g => if inB g.start 0 2880 = true then (if g.up = up then max ready (g.start + 2 * k.minutes) else max ready (g.start + k.minutes)) else -1) := if_pos ⟨h1, h2⟩
/-- The lengths of different existing ships. -/
def lensFrom (fl : List ShipD) (done : List Int) : List Int → Option (List Int)
  | [] => some []
  | n :: s => if inB n 0 ((fl.length : Int) - 1) = true ∧ done.any (· == n) = false then (match fl[n.toNat]? with
      | some x => (lensFrom fl (done ++ [n]) s).map (fun t => x.length :: t)
      | none => none) else none
def lensO (fl : List ShipD) (s : List Int) : Option (List Int) := match lensFrom fl [] s with
  | some t => if t.length ≤ 8 then some t else none
  | none => none
theorem lensO_len {fl : List ShipD} {s t : List Int} (h : lensO fl s = some t) : t.length ≤ 8 := by
  unfold lensO at h
  cases e : lensFrom fl [] s with
  | none => rw [e] at h; cases h
  | some u =>
    rw [e] at h
    by_cases h8 : u.length ≤ 8
    · have h : (if u.length ≤ 8 then some u else none) = some t := h
      rw [if_pos h8] at h
      injection h with h
      rw [← h]; exact h8
    · have h : (if u.length ≤ 8 then some u else none) = some t := h
      rw [if_neg h8] at h
      cases h
/-- A locking beside the one before it. -/
def turnB (k : ChamberD) (g : LockD) (before : Option LockD) : Bool := inB g.start 0 2880 && match before with
  | none => true
  | some b => decide (b.start + k.minutes ≤ g.start) && (g.up != b.up)
def lockB (k : ChamberD) (fl : List ShipD) (g : LockD) (before : Option LockD) : Bool := turnB k g before && match lensO fl g.ships with
  | some t => (packO k t).isSome
  | none => false
def planFrom (k : ChamberD) (fl : List ShipD) : Option LockD → List LockD → Bool
  | _, [] => true
  | b, g :: l => lockB k fl g b && planFrom k fl (some g) l
def lockPlanB (k : ChamberD) (fl : List ShipD) (l : List LockD) : Bool := chamB k && fleetB fl && decide (l.length ≤ 12) && planFrom k fl none l
end Go.Proofs.Ytlddampjbmklkaa
