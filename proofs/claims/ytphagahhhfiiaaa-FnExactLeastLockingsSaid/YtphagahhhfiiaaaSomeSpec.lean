
/- Lock chambers, the model's side: l10Some: contract. -/
import Derived.Test.YtphagahhhfiiaaaLotMath
import Derived.Test.YtphagahhhfiiaaaLivLib
import Derived.Test.YtphagahhhfiiaaaBlk
import Derived.Test.YtphagahhhfiiaaaOwnVar
import Derived.StillTailTactics
import Derived.Deep.DeepCutAuto
namespace Go.Proofs.Ytphagahhhfiiaaa
open Go.RowKit
set_option maxRecDepth 100000

theorem bits_and_nat {a b : Nat} (ha : a < 4611686018427387904) (hb : b < 4611686018427387904) : bits BinOp.and IntKind.i64 (a : Int) (b : Int) = ((a &&& b : Nat) : Int) := by
  show IntKind.i64.wrap (((BitVec.ofInt 64 (a : Int)) &&& (BitVec.ofInt 64 (b : Int))).toNat : Int) = _
  rw [BitVec.ofInt_natCast, BitVec.ofInt_natCast, BitVec.toNat_and, BitVec.toNat_ofNat, BitVec.toNat_ofNat, Nat.mod_eq_of_lt (by omega), Nat.mod_eq_of_lt (by omega), IntKind.wrap_i64]
  have : a &&& b ≤ a := Nat.and_le_left
  omega
theorem bit_at (b k : Nat) (hb : b < 256) : (bits BinOp.and IntKind.i64 ((b : Int) / 2 ^ k) 1 == 1) = decide (b / 2 ^ k % 2 = 1) := by
  have e1 : (b : Int) / 2 ^ k = ((b / 2 ^ k : Nat) : Int) := by rw [Int.natCast_ediv, Int.natCast_pow]; rfl
  have h1 : b / 2 ^ k ≤ b := Nat.div_le_self _ _
  have e2 := bits_and_nat (a := b / 2 ^ k) (b := 1) (by omega) (by omega)
  rw [e1, show (1 : Int) = ((1 : Nat) : Int) from rfl, e2, Nat.and_one_is_mod]
  rcases Nat.mod_two_eq_zero_or_one (b / 2 ^ k) with h | h <;> rw [h] <;> rfl
set_option maxHeartbeats 4000000 in
theorem specSome (v : Value) (l : List Int) (b : Nat) (w : World) (h : SlInt w v l) (hl8 : l.length ≤ 8) (hb8 : b < 256) :
    Calls Try.prog 49 #[v, .int .i64 (b : Int)] w fun e w' => ∃ u, e = .returned u ∧ OwnInt w' w.heap.size u (someL l b) ∧ Below w.heap.size w w' := by
  have HS := Lib.hid h
  obtain ⟨A1, c1, rfl⟩ := SlOf.form h
  obtain ⟨i0, hi, hz0, hz1, hz2⟩ := info1_int
  have HI := Lib.hid (And.intro hi (And.intro hz0 (And.intro hz1 hz2)))
  obtain ⟨m, hm⟩ : ∃ m, l.length = m := ⟨_, rfl⟩
  have HM := Lib.hid hm
  rw [hm] at hl8 ⊢
  have hb0 := Joins.below_alloc1 w (.cells #[] 3)
  have O0 := Lib.hid ((Liv.build (Liv.nil w) 0 [] (by simp)).own _ List.mem_cons_self)
  have B0 := Lib.hid hb0
  clear h hm hi hz0 hz1 hz2 hb0
  go_enter Try.func49, Try.ntmps49
  go_wp2
  go_loopw [5, 11] (fun q t wr => ∃ (k : Nat) (u : Value), k ≤ m ∧ q = u ∧ t = .int .i64 (k : Int) ∧ Hid (OwnInt wr w.heap.size u (someL (l.take k) b)) ∧ Hid (Below w.heap.size w wr)) (fun _ t _ => m - (intOf t).toNat)
  case atStart => exact ⟨0, _, Nat.zero_le _, rfl, rfl, O0, B0⟩
  case round =>
    obtain ⟨k, u, hk, rfl, rfl, hO, hb⟩ := hrel
    obtain ⟨Au, cu, rfl⟩ := own_form hO.out
    by_cases hkm : k < m
    rotate_left
    · obtain rfl : k = m := by omega
      have E := Lib.hid (show l.take k = l by rw [← HM.out, List.take_length])
      go_wp2
      go_ret
      exact ⟨_, rfl, by have := hO.out; rw [E.out] at this ⊢; exact this, hb.out⟩
    obtain ⟨x, hx⟩ : ∃ x, l[k]? = some x := ⟨_, List.getElem?_eq_getElem (by have := HM.out; omega)⟩
    rcases HS.out.2 with ⟨he, _⟩ | ⟨g, o, c', e, hpos, hcap, hc⟩
    · rw [he] at hx; simp at hx
    injection e with hA' _ hcp
    subst hA' hcp
    have x0 := cell_onV (SlInt.cells hc k x hx) hb.out
    have HX := Lib.hid hx
    have E0 := Lib.hid (someL_snoc (b := b) hx)
    clear hx hc hpos hcap
    have hkb : (k : Int) ≤ 64 := by omega
    obtain ⟨t, ht⟩ : ∃ t, decide (b / 2 ^ k % 2 = 1) = t := ⟨_, rfl⟩
    have hbit := bit_at b k hb8
    rw [ht] at hbit
    have HT := Lib.hid ht
    clear ht
    cases t with
    | false =>
      have E := Lib.hid (show someL (l.take (k + 1)) b = someL (l.take k) b by rw [E0.out, if_neg (of_decide_eq_false HT.out), List.append_nil])
      have O1 := Lib.hid (show OwnInt wr w.heap.size (.slice Au (someL (l.take k) b).length cu) (someL (l.take (k + 1)) b) by rw [E.out]; exact hO.out)
      go_wp2
      go_roundw
      case rel => exact ⟨k + 1, _, by omega, rfl, by go_num, O1, hb⟩
      case measure => simp [intOf]; omega
    | true =>
      have E := Lib.hid (show someL (l.take (k + 1)) b = someL (l.take k) b ++ [x] by rw [E0.out, if_pos (of_decide_eq_true HT.out)])
      have hsl : (someL (l.take k) b).length ≤ 8 := by have := someL_len (l.take k) b; rw [List.length_take] at this; omega
      obtain ⟨s, hs⟩ : ∃ s, someL (l.take k) b = s := ⟨_, rfl⟩
      rw [hs] at hsl hO E ⊢
      clear hs
      have hb1 := Joins.below_alloc1 wr (.cells #[.int .i64 x] 3)
      have AL := Lib.hid (own_below hO.out hb1)
      have B1 := Lib.hid (hb.out.trans (hb1.mono hb.out.size))
      have HN := Lib.hid (World.news_of_block (heap_alloc_new wr (.cells #[.int .i64 x] 3)))
      have hsz : w.heap.size ≤ wr.heap.size + 1 := by have := hb.out.size; omega
      have hi := HI.out
      clear hb1
      go_wp2_with (at_builtin; refine wpList_append_lies _ rfl _ _ _ rfl w.heap.size 3 i0 _ 1 8 Try.underlying25 hi.1 hi.2.1 hi.2.2.1 hi.2.2.2 rfl (by omega) (.slice Au s.length cu) s.length (s.flatMap intCells) rfl AL.out ⟨wr.heap.size, 0, none⟩ 1 1 [.int .i64 x] (by first | rfl | simp) rfl HN.out (by simp [Value.oneCell']) (by omega) (by unfold maxLen; omega) (by omega) (by first | omega | (simp; omega)) _ rfl ?_; intro g4 cap4 w4 hown4 hgrow4 hor4 hlt4; have O1 := Lib.hid (show OwnInt w4 w.heap.size (.slice (some ⟨g4, 0, none⟩) (s.length + 1) cap4) (someL (l.take (k + 1)) b) by rw [E.out]; unfold OwnInt OwnOf; rw [List.length_append, List.flatMap_append]; exact hown4); have B4 := Lib.hid (B1.out.grown hgrow4 B1.out.size (fun j e => (own_ge AL.out e).1)); clear hown4 hgrow4 hor4 hlt4)
      go_roundw
      case rel => exact ⟨k + 1, _, by omega, rfl, by go_num, O1, B4⟩
      case measure => simp [intOf]; omega
end Go.Proofs.Ytphagahhhfiiaaa
