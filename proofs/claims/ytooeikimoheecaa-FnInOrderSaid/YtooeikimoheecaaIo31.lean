
/- What InOrderLaw rests on, part 31: contracts and mathematics. -/
import Derived.Test.YtooeikimoheecaaIo28
import Derived.Test.YtooeikimoheecaaIo27
import Derived.Test.YtooeikimoheecaaIo22
import Derived.Deep.RegionHeld3
import Derived.IntWalk
namespace Go.Proofs.Ytooeikimoheecaa
open Go.RowKit
set_option maxRecDepth 100000
theorem minutesAtEnd_any (m : Int) (A A' : Option Addr) (n n' c c' : Nat) (level e0 : Int) (w : World) :
    Calls Try.prog 146 #[.agg #[.int .i64 m, .slice A n c, .slice A' n' c'], .int .i64 level, .int .i64 e0] w fun e w' => e = .returned (.func (.func 149) #[] #[.pointer (some ⟨w.heap.size, 0, none⟩), .pointer (some ⟨w.heap.size + 1 + 1, 0, none⟩), .pointer (some ⟨w.heap.size + 1, 0, none⟩)]) ∧
      w' = ((w.alloc (.cells #[.int .i64 m, .slice A n c, .slice A' n' c'] 28)).alloc (.cells #[.int .i64 level] 3)).alloc (.cells #[.int .i64 e0] 200) := by
  go_enter Try.func146, Try.ntmps146
  go_wp2
  go_ret
  exact ⟨rfl, rfl⟩
set_option maxHeartbeats 4000000 in
theorem windowsAtEnd_any (hi : Bool) (e0 : Int) (hEnd : EndAt hi e0) (m : Int) (v u : Value) (l : List PartD) (s : List SurgeD) (level : Int) (w : World) (h : SlP w v l) (h' : SlSurge w u s) :
    Calls Try.prog 141 #[.agg #[.int .i64 m, v, u], .int .i64 level, .int .i64 e0] w (NewWindow (wetL hi m l s level) w) := by
  have H := Lib.hid h
  have H' := Lib.hid h'
  have HEND := Lib.hid hEnd
  obtain ⟨A, c, rfl⟩ := h.at
  obtain ⟨A', c', rfl⟩ := h'.at
  have B0 := Lib.hid (Joins.below_alloc1 w (.cells #[.int .i64 m, .slice A l.length c, .slice A' s.length c'] 28))
  have X0 := Lib.hid (Blk.new w #[.int .i64 m, .slice A l.length c, .slice A' s.length c'] 28)
  clear h h' hEnd
  cases hok : fcB m l s with
  | false =>
    have E := Lib.hid (wetL_bad (hi := hi) (level := level) hok)
    have HOK := Lib.hid hok
    clear hok
    go_enter Try.func141, Try.ntmps141
    go_wp2_with fail
    refine (implForecastOk m _ _ l s _ (H.out.below B0.out) (H'.out.below B0.out)).mono ?_
    rw [HOK.out]
    rintro e w1 ⟨rfl, hb1⟩
    have B1 := Lib.hid (B0.out.trans (hb1.mono B0.out.size))
    clear hb1
    go_wp2
    go_ret
    exact NewWindow.empty B1.out E.out
  | true =>
    have E := Lib.hid (wetL_ok (hi := hi) (level := level) hok)
    have HOK := Lib.hid hok
    clear hok
    go_enter Try.func141, Try.ntmps141
    go_wp2_with fail
    refine (implForecastOk m _ _ l s _ (H.out.below B0.out) (H'.out.below B0.out)).mono ?_
    rw [HOK.out]
    rintro e w1 ⟨rfl, hb1⟩
    have B1 := Lib.hid (B0.out.trans (hb1.mono B0.out.size))
    have X1 := Lib.hid (X0.out.below hb1)
    have x0 : w1.cell? ⟨w.heap.size, 0, none⟩ = some (.int .i64 m) := X1.out.cell 0
    have x1 : w1.cell? ⟨w.heap.size, 1, none⟩ = some (.slice A l.length c) := X1.out.cell 1
    have x2 : w1.cell? ⟨w.heap.size, 2, none⟩ = some (.slice A' s.length c') := X1.out.cell 2
    clear hb1
    go_wp2_with fail
    refine (minutesAtEnd_any m A A' _ _ c c' level e0 w1).mono ?_
    rintro e w2 ⟨rfl, hw2⟩
    have hF0 := FBox.new (m := m) 28 (H.out.below B1.out) (H'.out.below B1.out)
    have hb2 : Below (w1.alloc (.cells #[.int .i64 m, .slice A l.length c, .slice A' s.length c'] 28)).heap.size (w1.alloc (.cells #[.int .i64 m, .slice A l.length c, .slice A' s.length c'] 28)) w2 := by rw [hw2]; exact Joins.below_alloc2 _ _ _
    have hF := hF0.below hb2
    have hal : Below w1.heap.size w1 w2 := (Joins.below_alloc1 w1 _).trans (hb2.mono (by simp))
    have be : w2.cell? ⟨w1.heap.size + 1 + 1, 0, none⟩ = some (.int .i64 e0) := by rw [hw2]; exact (Blk.newAt (by simp) _ _).cell 0
    have bl : w2.cell? ⟨w1.heap.size + 1, 0, none⟩ = some (.int .i64 level) := by rw [hw2]; exact ((Blk.newAt (by simp) _ _).below (Joins.below_alloc1 _ _)).cell 0
    have B2 := Lib.hid (B1.out.trans (hal.mono B1.out.size))
    have CC := Lib.hid (merge_any _ _ _ _ _ _ (minutes1 hi e0 HEND.out m A A' c c' l s level _ _ _ w2 hF be bl) (Nat.le_refl _) (enters_of Try.func149 (by kernel_rfl) rfl) (by omega))
    rw [minP_merge] at CC
    clear hw2 hF0 hb2 hF hal be bl x0 x1 x2
    go_wp2_with fail
    refine CC.out.mono ?_
    intro e w3 hnew
    obtain ⟨v3, rfl, h1, h2⟩ := hnew
    have K1 := Lib.hid h1
    have K2 := Lib.hid h2
    obtain ⟨A3, c3, rfl⟩ := own_form h1
    clear h1 h2
    go_wp2
    go_ret
    rw [E.out]
    exact ⟨_, rfl, own_lo K1.out B2.out.size, B2.out.trans (K2.out.mono B2.out.size)⟩
set_option maxHeartbeats 2000000 in
theorem implLowWindows (m : Int) (v u : Value) (l : List PartD) (s : List SurgeD) (level : Int) (w : World) (h : SlP w v l) (h' : SlSurge w u s) :
    Calls Try.prog 134 #[.agg #[.int .i64 m, v, u], .int .i64 level] w (NewWindow (wetL false m l s level) w) := by
  have B0 := Lib.hid (Joins.below_alloc1 w (.cells #[.int .i64 m, v, u] 28))
  have CC := Lib.hid (windowsAtEnd_any false _ endLo m v u l s level _ (h.below B0.out) (h'.below B0.out))
  obtain ⟨A, c, rfl⟩ := h.at
  obtain ⟨A', c', rfl⟩ := h'.at
  clear h h'
  go_enter Try.func134, Try.ntmps134
  go_wp2_with fail
  refine CC.out.mono ?_
  intro e w3 hnew
  obtain ⟨v3, rfl, h1, h2⟩ := hnew
  have K1 := Lib.hid h1
  have K2 := Lib.hid h2
  obtain ⟨A3, c3, rfl⟩ := own_form h1
  clear h1 h2
  go_wp2
  go_ret
  exact ⟨_, rfl, own_lo K1.out B0.out.size, B0.out.trans (K2.out.mono B0.out.size)⟩
end Go.Proofs.Ytooeikimoheecaa
