
/- A drawn ship and a drawn fleet are valid: contracts. -/
import Derived.Test.YtpglaffmmddcdaaDrawVar
import Derived.Test.YtpglaffmmddcdaaFleetMath
import Derived.Test.YtpglaffmmddcdaaGath
namespace Go.Proofs.Ytpglaffmmddcdaa
open Go.RowKit
set_option maxRecDepth 100000

theorem str_none (t : ByteArray) : t ++ ⟨#[]⟩ = t := by apply ba_ext; simp [ByteArray.data_append]
theorem specFormat1 (n : Int) (w : World) (h0 : 0 ≤ n) (h1 : n ≤ 9) :
    Calls Try.prog 76 #[.int .i64 n] w fun e w' => e = .returned (.string (strOfNums [48 + n])) ∧ Below w.heap.size w w' := by
  go_enter Try.func76, Try.ntmps76
  go_wp2
  go_loopw [0, 3] (fun i q wr => ∃ t : ByteArray, i = .int .i64 n ∧ q = .string t ∧ Hid (t = ⟨#[]⟩) ∧ t.size ≤ 21 ∧ Below w.heap.size w wr) (fun _ _ _ => 0)
  case atStart => exact ⟨_, rfl, rfl, Lib.hid rfl, by simp [ByteArray.size], Below.refl _ _⟩
  case round =>
    obtain ⟨t, rfl, rfl, he, htz, hb⟩ := hrel
    have hsz := hb.size
    have hcv := conv_one wr (48 + n)
    have hs1 := strOfNums_size [48 + n]
    simp only [List.length_cons, List.length_nil] at hs1
    go_wp2
    go_ret
    refine ⟨ret_str ?_, hb.alloc hsz _⟩
    rw [he.out, str_none]

def shipName (i : Nat) : ByteArray := ⟨#[115]⟩ ++ strOfNums [48 + (i : Int)]
def shipGood (i : Nat) (d : ShipD) : Prop := d.name = shipName i ∧ 40 ≤ d.length ∧ d.length < 240 ∧ 600 ≤ d.draught ∧ d.draught < 1100 ∧ 0 ≤ d.line ∧ d.line < 4 ∧ 0 ≤ d.tugs ∧ d.tugs < 3
/-- What a drawn ship leaves. -/
def DrawsShip (p i : Nat) (w : World) (e : Ending) (w' : World) : Prop := ∃ d : ShipD, e = .returned d.val ∧ shipGood i d ∧ Cursor w' p ∧ w.grownBy w' (some p)

set_option maxHeartbeats 2000000 in
theorem l06Ship_any (p i : Nat) (w : World) (hi : i ≤ 9) (hcur : Cursor w p) : Calls Try.prog 63 #[.pointer (some ⟨p, 0, none⟩), .int .i64 (i : Int)] w (DrawsShip p i w) := by
  have hb0 := Joins.below_alloc1 w (.cells #[.string ⟨#[]⟩, .int .i64 0, .int .i64 0, .int .i64 0, .int .i64 0, .bool false] 101)
  have hp := hcur.lt
  have G0 := Lib.hid (grown_alloc w (.cells #[.string ⟨#[]⟩, .int .i64 0, .int .i64 0, .int .i64 0, .int .i64 0, .bool false] 101) (some p))
  have K0 := Lib.hid (Blk.new w #[.string ⟨#[]⟩, .int .i64 0, .int .i64 0, .int .i64 0, .int .i64 0, .bool false] 101)
  have HC0 := Lib.hid (hcur.below hb0)
  have HNP := Lib.hid (show some w.heap.size ≠ some p by simp; omega)
  have hs1 := strOfNums_size [48 + (i : Int)]
  simp only [List.length_cons, List.length_nil] at hs1
  clear hcur hb0
  go_enter Try.func63, Try.ntmps63
  go_wp2_with fail
  refine (specFormat1 (i : Int) _ (by omega) (by omega)).mono ?_
  rintro e w1 ⟨rfl, hb1⟩
  have hsz1 : w.heap.size + 1 ≤ w1.heap.size := by have := hb1.size; simpa using this
  have HC1 := Lib.hid (HC0.out.below hb1)
  have G1 := Lib.hid (grown_trans G0.out (grown_of_below hb1 (some p)))
  have K1 := Lib.hid (K0.out.below hb1)
  clear hb1 HC0 G0 K0
  go_wp2_with fail
  refine (l01Below_any p 200 _ (by omega) (by omega) HC1.out).mono ?_
  rintro e w2 ⟨x, rfl, x0, x1, hc, hg⟩
  have hsz2 : w.heap.size + 1 ≤ w2.heap.size := Nat.le_trans hsz1 hg.size
  have HC2 := Lib.hid hc
  have G2 := Lib.hid (grown_trans G1.out hg)
  have K2 := Lib.hid (K1.out.grown hg HNP.out)
  clear hc hg HC1 G1 K1
  go_wp2_with fail
  refine (l01Below_any p 500 _ (by omega) (by omega) HC2.out).mono ?_
  rintro e w3 ⟨y, rfl, y0, y1, hc, hg⟩
  have hsz3 : w.heap.size + 1 ≤ w3.heap.size := Nat.le_trans hsz2 hg.size
  have HC3 := Lib.hid hc
  have G3 := Lib.hid (grown_trans G2.out hg)
  have K3 := Lib.hid (K2.out.grown hg HNP.out)
  clear hc hg HC2 G2 K2
  go_wp2_with fail
  refine (l01Below_any p 4 _ (by omega) (by omega) HC3.out).mono ?_
  rintro e w4 ⟨z, rfl, z0, z1, hc, hg⟩
  have hsz4 : w.heap.size + 1 ≤ w4.heap.size := Nat.le_trans hsz3 hg.size
  have HC4 := Lib.hid hc
  have G4 := Lib.hid (grown_trans G3.out hg)
  have K4 := Lib.hid (K3.out.grown hg HNP.out)
  clear hc hg HC3 G3 K3
  go_wp2_with fail
  refine (l01Below_any p 3 _ (by omega) (by omega) HC4.out).mono ?_
  rintro e w5 ⟨u, rfl, u0, u1, hc, hg⟩
  have hsz5 : w.heap.size + 1 ≤ w5.heap.size := Nat.le_trans hsz4 hg.size
  have HC5 := Lib.hid hc
  have G5 := Lib.hid (grown_trans G4.out hg)
  have K5 := Lib.hid (K4.out.grown hg HNP.out)
  clear hc hg HC4 G4 K4
  go_wp2_with fail
  refine (l01Once_any p 4 _ (by omega) (by omega) HC5.out).mono ?_
  rintro e w6 ⟨b, rfl, hc, hg⟩
  have HC6 := Lib.hid hc
  have G6 := Lib.hid (grown_trans G5.out hg)
  have K6 := K5.out.grown hg HNP.out
  have hsz6 : w.heap.size < w6.heap.size := K6.lt
  have k0 := K6.cell 0
  have f0 : w6.frozen? ⟨w.heap.size, 0, none⟩ = false := K6.free 0
  have k1 := K6.cell 1
  have f1 : w6.frozen? ⟨w.heap.size, 1, none⟩ = false := K6.free 1
  have k2 := K6.cell 2
  have f2 : w6.frozen? ⟨w.heap.size, 2, none⟩ = false := K6.free 2
  have k3 := K6.cell 3
  have f3 : w6.frozen? ⟨w.heap.size, 3, none⟩ = false := K6.free 3
  have k4 := K6.cell 4
  have f4 : w6.frozen? ⟨w.heap.size, 4, none⟩ = false := K6.free 4
  have k5 := K6.cell 5
  have f5 : w6.frozen? ⟨w.heap.size, 5, none⟩ = false := K6.free 5
  simp at k0 k1 k2 k3 k4 k5
  clear hc hg HC5 G5 K5 K6
  go_wp2
  refine bodyPost_ret (v := .agg #[.string (⟨#[115]⟩ ++ strOfNums [48 + (i : Int)]), .int .i64 (40 + x), .int .i64 (600 + y), .int .i64 z, .int .i64 u, .bool b]) (by simp [results, Try.results63, go_sem, *]) rfl ⟨⟨_, _, _, _, _, _⟩, rfl, ⟨rfl, by show 40 ≤ 40 + x; omega, by show 40 + x < 240; omega, by show 600 ≤ 600 + y; omega, by show 600 + y < 1100; omega, z0, z1, u0, u1⟩, ?_, ?_⟩
  · exact (((((HC6.out.set hp _ _).set hp _ _).set hp _ _).set hp _ _).set hp _ _).set hp _ _
  · exact grown_setNew (grown_setNew (grown_setNew (grown_setNew (grown_setNew (grown_setNew G6.out (Nat.le_refl _) _) (Nat.le_refl _) _) (Nat.le_refl _) _) (Nat.le_refl _) _) (Nat.le_refl _) _) (Nat.le_refl _) _

/-- What holds at each round of l06Fleet. -/
def FlDraw (w : World) (p : Nat) (v : Value) (l : List ShipD) (wr : World) : Prop := Cursor wr p ∧ w.grownBy wr (some p) ∧ OwnShip wr w.heap.size v l ∧ (∀ j x, l[j]? = some x → shipGood j x) ∧ p < w.heap.size
theorem FlDraw.step {w wr w3 : World} {p : Nat} {v : Value} {l : List ShipD} (h : FlDraw w p v l wr) (hg : wr.grownBy w3 (some p)) (hc : Cursor w3 p) : FlDraw w p v l w3 := by
  obtain ⟨h1, h2, h3, h4, h5⟩ := h
  exact ⟨hc, grown_trans h2 hg, own_kept h3 hg (fun b hv e => by have := (own_ge h3 hv).1; have := Option.some.inj e; omega), h4, h5⟩
theorem FlDraw.below {w wr w3 : World} {p : Nat} {v : Value} {l : List ShipD} (h : FlDraw w p v l wr) (hb : Below wr.heap.size wr w3) : FlDraw w p v l w3 := by
  obtain ⟨h1, h2, h3, h4, h5⟩ := h
  exact ⟨h1.below hb, grown_trans h2 (grown_of_below hb _), own_below h3 hb, h4, h5⟩
theorem FlDraw.app {w wr w4 : World} {p : Nat} {v : Value} {l : List ShipD} {d : ShipD} {g4 cap4 : Nat} (h : FlDraw w p v l wr) (hd : shipGood l.length d)
    (hown : w4.ownsRow w.heap.size 101 6 (.slice (some ⟨g4, 0, none⟩) (l.length + 1) cap4) (l.length + 1) (l.flatMap ShipD.cells ++ d.cells)) (hgr : wr.grownBy w4 v.ownBlock) : FlDraw w p (.slice (some ⟨g4, 0, none⟩) (l.length + 1) cap4) (l ++ [d]) w4 := by
  obtain ⟨h1, h2, h3, h4, h5⟩ := h
  have r0 : ∀ b, v.ownBlock = some b → w.heap.size ≤ b := fun b hv => (own_ge h3 hv).1
  refine ⟨h1.grown hgr (fun b hv => by have := r0 b hv; omega), grown_young h2 hgr r0, ?_, fun j x hx => ?_, h5⟩
  · show World.ownsRow _ _ _ _ _ _ _
    have e : (l ++ [d]).flatMap ShipD.cells = l.flatMap ShipD.cells ++ d.cells := by simp
    rw [e]
    simpa using hown
  · rw [List.getElem?_append] at hx
    split at hx
    · exact h4 j x hx
    · rename_i hj
      cases hjj : j - l.length with
      | zero => rw [hjj] at hx; simp at hx; subst hx; have e : j = l.length := by omega
                rw [e]; exact hd
      | succ m => rw [hjj] at hx; simp at hx
/-- What a drawn fleet leaves. -/
def DrawsFleet (p : Nat) (w : World) (e : Ending) (w' : World) : Prop := ∃ (A : Option Addr) (c : Nat) (l : List ShipD), e = .returned (.slice A l.length c) ∧ 1 ≤ l.length ∧ l.length ≤ 3 ∧ FlDraw w p (.slice A l.length c) l w'

set_option maxHeartbeats 4000000 in
theorem l06Fleet_any (p : Nat) (w : World) (hcur : Cursor w p) : Calls Try.prog 40 #[.pointer (some ⟨p, 0, none⟩), .int .i64 3] w (DrawsFleet p w) := by
  have hp := hcur.lt
  obtain ⟨i0, hi, hz0, hz1, hz2⟩ := info_parts info_ship
  have HI := Lib.hid (And.intro hi (And.intro hz0 (And.intro hz1 hz2)))
  have hal := Joins.below_alloc1 w (.cells #[] 101)
  have C := Lib.hid (l01Below_any p 3 _ (by omega) (by omega) (hcur.below hal))
  have ST0 := Lib.hid (show FlDraw w p (.slice (some ⟨w.heap.size, 0, none⟩) 0 0) [] (w.alloc (.cells #[] 101)) from
    ⟨hcur.below hal, grown_of_below hal _, (GathO.made (cs := ShipD.cells) (t := 101) (k := 6) (Below.refl w.heap.size w)).1, fun j x hx => by simp at hx, hp⟩)
  clear hi hz0 hz1 hz2 hcur hal
  go_enter Try.func40, Try.ntmps40
  go_wp2_with fail
  refine C.out.mono ?_
  rintro e w1 ⟨n, rfl, n0, n1, hc, hg⟩
  have ST1 := Lib.hid (ST0.out.step hg hc)
  clear hc hg C ST0
  go_wp2
  go_loopw [5, 6] (fun q i wr => ∃ (k : Nat) (v : Value) (l : List ShipD), l.length + k ≤ 3 ∧ 0 < l.length + k ∧ i = .int .i64 k ∧ q = v ∧ Hid (FlDraw w p v l wr)) (fun _ i _ => (intOf i).toNat)
  case atStart => exact ⟨(1 + n).toNat, _, [], by simp; omega, by simp; omega, by simp; omega, rfl, ST1⟩
  case round =>
    obtain ⟨k, v, l, hlk, hpos, rfl, rfl, hD⟩ := hrel
    have hps : p < w.heap.size := hD.out.2.2.2.2
    obtain ⟨A, c, rfl⟩ := own_form hD.out.2.2.1
    by_cases hk : 0 < k
    · go_wp2_with fail
      refine (l06Ship_any p l.length _ (by omega) hD.out.1).mono ?_
      rintro e w3 ⟨d, rfl, hd, hc, hg⟩
      have SD := Lib.hid (hD.out.step hg hc)
      have HD := Lib.hid hd
      have AL := Lib.hid (SD.out.below (Joins.below_alloc1 w3 (.cells #[.string d.name, .int .i64 d.length, .int .i64 d.draught, .int .i64 d.line, .int .i64 d.tugs, .bool d.slow] 101)))
      have HN := Lib.hid (World.news_of_block (heap_alloc_new w3 (.cells #[.string d.name, .int .i64 d.length, .int .i64 d.draught, .int .i64 d.line, .int .i64 d.tugs, .bool d.slow] 101)))
      have hsz : w.heap.size ≤ w3.heap.size + 1 := by have := SD.out.2.1.size; omega
      have hi := HI.out
      clear hc hg hd hD
      go_wp2_with (at_builtin; refine wpList_append_lies _ rfl _ _ _ rfl w.heap.size 101 i0 _ 6 56 Try.underlying70 hi.1 hi.2.1 hi.2.2.1 hi.2.2.2 rfl (by omega) (.slice A l.length c) l.length (l.flatMap ShipD.cells) rfl AL.out.2.2.1 ⟨w3.heap.size, 0, none⟩ 1 1 d.cells (by first | rfl | simp) rfl HN.out (ship_one d) (by omega) (by unfold maxLen; omega) (by omega) (by first | omega | (simp; omega)) _ rfl ?_; intro g4 cap4 w4 hown4 hgrow4 hor4 hlt4; have GX := Lib.hid (AL.out.app HD.out hown4 hgrow4); clear hown4 hgrow4 hor4 hlt4)
      go_roundw
      case rel => exact ⟨k - 1, _, l ++ [d], by simp; omega, by simp; omega, by go_num, rfl, GX⟩
      case measure => simp [intOf]; omega
    · go_wp2
      go_ret
      exact ⟨A, c, l, rfl, by omega, by omega, hD.out⟩
theorem names_digit (i : Nat) (hi : i ≤ 2) : nameB (shipName i) = true := by
  match i, hi with
  | 0, _ => show nameB (shipName 0) = true; kernel_rfl
  | 1, _ => show nameB (shipName 1) = true; kernel_rfl
  | 2, _ => show nameB (shipName 2) = true; kernel_rfl
theorem names_apart : ∀ i j : Nat, i ≤ 2 → j ≤ 2 → i ≠ j → (((shipName i).toList == (shipName j).toList) = false) := by
  intro i j hi hj hne
  rw [ByteArray.toList_eq, ByteArray.toList_eq]
  match i, hi, j, hj with
  | 0, _, 1, _ => show ((shipName 0).data.toList == (shipName 1).data.toList) = false; kernel_rfl
  | 0, _, 2, _ => show ((shipName 0).data.toList == (shipName 2).data.toList) = false; kernel_rfl
  | 1, _, 0, _ => show ((shipName 1).data.toList == (shipName 0).data.toList) = false; kernel_rfl
  | 1, _, 2, _ => show ((shipName 1).data.toList == (shipName 2).data.toList) = false; kernel_rfl
  | 2, _, 0, _ => show ((shipName 2).data.toList == (shipName 0).data.toList) = false; kernel_rfl
  | 2, _, 1, _ => show ((shipName 2).data.toList == (shipName 1).data.toList) = false; kernel_rfl
  | 0, _, 0, _ => exact absurd rfl hne
  | 1, _, 1, _ => exact absurd rfl hne
  | 2, _, 2, _ => exact absurd rfl hne
end Go.Proofs.Ytpglaffmmddcdaa
