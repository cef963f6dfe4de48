/- HighestLevel, LowestLevel of the program: contracts. -/
import Derived.Test.YtbcbbolakjjglaaExtreme
namespace Go.Proofs.Ytbcbbolakjjglaa
open Go.RowKit
set_option maxRecDepth 100000

theorem extV_form (m : Int) (l : List PartD) (s a b : Int) : ∃ x y z, extV m l s a b = .tuple #[.int .i64 x, .int .i64 y, .bool z] := by
  unfold extV
  split <;> exact ⟨_, _, _, rfl⟩

theorem implHighestLevel (m : Int) (v : Value) (l : List PartD) (a b : Int) (w : World) (h : SlP w v l) :
    Calls Try.prog 44 #[.agg #[.int .i64 m, v], .int .i64 a, .int .i64 b] w fun e w' => e = .returned (extV m l (1) a b) ∧ Below w.heap.size w w' := by
  have H := Lib.hid h
  obtain ⟨A, c, rfl⟩ := h.at
  have hb0 := Joins.below_alloc1 w (.cells #[.int .i64 m, .slice A l.length c] 25)
  have B0 := Lib.hid hb0
  have C := Lib.hid (extreme_high m _ l a b _ (H.out.below hb0))
  clear h hb0
  obtain ⟨x, y, z, hxyz⟩ := extV_form m l (1) a b
  rw [hxyz] at C ⊢
  clear hxyz
  go_enter Try.func44, Try.ntmps44
  go_wp2_with fail
  refine C.out.mono ?_
  rintro e w1 ⟨rfl, hb1⟩
  have B1 := Lib.hid (B0.out.trans (hb1.mono (by simp)))
  clear hb1 C
  go_wp2
  go_ret3
  exact ⟨rfl, B1.out⟩

theorem implLowestLevel (m : Int) (v : Value) (l : List PartD) (a b : Int) (w : World) (h : SlP w v l) :
    Calls Try.prog 45 #[.agg #[.int .i64 m, v], .int .i64 a, .int .i64 b] w fun e w' => e = .returned (extV m l (-1) a b) ∧ Below w.heap.size w w' := by
  have H := Lib.hid h
  obtain ⟨A, c, rfl⟩ := h.at
  have hb0 := Joins.below_alloc1 w (.cells #[.int .i64 m, .slice A l.length c] 25)
  have B0 := Lib.hid hb0
  have C := Lib.hid (extreme_low m _ l a b _ (H.out.below hb0))
  clear h hb0
  obtain ⟨x, y, z, hxyz⟩ := extV_form m l (-1) a b
  rw [hxyz] at C ⊢
  clear hxyz
  go_enter Try.func45, Try.ntmps45
  go_wp2_with fail
  refine C.out.mono ?_
  rintro e w1 ⟨rfl, hb1⟩
  have B1 := Lib.hid (B0.out.trans (hb1.mono (by simp)))
  clear hb1 C
  go_wp2
  go_ret3
  exact ⟨rfl, B1.out⟩

end Go.Proofs.Ytbcbbolakjjglaa
