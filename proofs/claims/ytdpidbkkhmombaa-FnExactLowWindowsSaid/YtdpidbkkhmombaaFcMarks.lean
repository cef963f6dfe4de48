
/- The marks of a forecast: laws.markForecast, laws.heldForecast: contracts. -/
import Derived.Test.YtdpidbkkhmombaaPartMarks
import Derived.Test.YtdpidbkkhmombaaForecast
import Derived.Test.YtdpidbkkhmombaaBlk0
import Derived.Maps.AppendAt
namespace Go.Proofs.Ytdpidbkkhmombaa
open Go.RowKit
set_option maxRecDepth 100000

def Free (w : World) (v : Value) : Prop := ∀ g, v.ownBlock = some g → ∀ j, w.frozen? ⟨g, j, none⟩ = false
theorem Free.below {w w' : World} {v : Value} (h : Free w v) (hl : ∀ g, v.ownBlock = some g → g < w.heap.size) (hb : Below w.heap.size w w') : Free w' v := fun g hg j => (hb.frozen (p := ⟨g, j, none⟩) (hl g hg)).trans (h g hg j)

theorem markTide_any (m : Int) (v : Value) (l : List PartD) (k : Int) (w : World) (h : SlP w v l) (hfz : Free w v) (hlt : ∀ g, v.ownBlock = some g → g < w.heap.size) (h0 : 0 ≤ k) (h1 : k ≤ 100000000) (h2 : l.length ≤ 10000000) :
    Calls Try.prog 85 #[.agg #[.int .i64 m, v], .int .i64 k] w fun e w' => e = .returned (.int .i64 (k + (l.length : Int) * 3)) ∧ Marked w' v (l.length * 3) k ∧ w.grownBy w' v.ownBlock := by
  have hal := Joins.below_alloc1 w (.cells #[.int .i64 m, v] 39)
  have C := Lib.hid (markPartS_any v l k (w.alloc (.cells #[.int .i64 m, v] 39)) (h.below hal) (hfz.below hlt hal) h0 h1 h2)
  have HAL := Lib.hid hal
  obtain ⟨A, c, rfl⟩ := h.at
  clear hal h hfz hlt
  go_enter Try.func85, Try.ntmps85
  go_wp2_with fail
  refine C.out.mono ?_
  rintro e w1 ⟨rfl, hm, hg⟩
  go_wp2
  go_ret
  exact ⟨rfl, hm, (grown_of_below HAL.out _).trans hg⟩

/-- What markForecast leaves. -/
def MarkF (v u : Value) (a b : Nat) (k : Int) (w : World) (e : Ending) (w' : World) : Prop :=
  e = .returned (.int .i64 (k + (a : Int) * 3 + (b : Int) * 3)) ∧ Marked w' v (a * 3) k ∧ Marked w' u (b * 3) (k + (a : Int) * 3) ∧ ∃ w1, w.grownBy w1 v.ownBlock ∧ w1.grownBy w' u.ownBlock

theorem SlSurge.grownS {w w' : World} {v : Value} {l : List SurgeD} {row : Option Nat} (h : SlSurge w v l) (hg : w.grownBy w' row) (hne : v.ownBlock = none ∨ v.ownBlock ≠ row) : SlSurge w' v l := SlOf.grown h hg hne
theorem SlP.grownS {w w' : World} {v : Value} {l : List PartD} {row : Option Nat} (h : SlP w v l) (hg : w.grownBy w' row) (hne : v.ownBlock = none ∨ v.ownBlock ≠ row) : SlP w' v l := SlOf.grown h hg hne
theorem apart_ne {v u : Value} (h : Apart v u) : (u.ownBlock = none ∨ u.ownBlock ≠ v.ownBlock) ∧ (v.ownBlock = none ∨ v.ownBlock ≠ u.ownBlock) := by
  cases hv : v.ownBlock with
  | none => exact ⟨by cases hu : u.ownBlock with | none => exact .inl rfl | some g => exact .inr (by simp), .inl rfl⟩
  | some g => exact ⟨.inr (h g hv), .inr (fun e => h g hv e.symm)⟩
theorem Free.grownS {w w' : World} {v : Value} {row : Option Nat} (h : Free w v) (hl : ∀ g, v.ownBlock = some g → g < w.heap.size) (hg : w.grownBy w' row) (hne : v.ownBlock = none ∨ v.ownBlock ≠ row) : Free w' v := fun g hgv j => by
  have e := hg.block g (hl g hgv) (fun e => by
    rcases hne with hn | hn
    · rw [hgv] at hn; cases hn
    · exact hn (hgv.trans e))
  have := h g hgv j
  simpa [World.frozen?, e] using this

set_option maxHeartbeats 1000000 in
theorem markForecast_any (m : Int) (v u : Value) (l : List PartD) (s : List SurgeD) (k : Int) (w : World) (h : SlP w v l) (h' : SlSurge w u s) (ha : Apart v u) (hfz : Free w v) (hfz' : Free w u) (hlt : ∀ g, v.ownBlock = some g → g < w.heap.size) (hlt' : ∀ g, u.ownBlock = some g → g < w.heap.size) (h0 : 0 ≤ k) (h1 : k ≤ 1000) (h2 : l.length ≤ 10000000) (h3 : s.length ≤ 10000000) :
    Calls Try.prog 50 #[.agg #[.int .i64 m, v, u], .int .i64 k] w (MarkF v u l.length s.length k w) := by
  obtain ⟨n1, n2⟩ := apart_ne ha
  have hal := Joins.below_alloc1 w (.cells #[.int .i64 m, v, u] 42)
  have C := Lib.hid (markTide_any m v l k (w.alloc (.cells #[.int .i64 m, v, u] 42)) (h.below hal) (hfz.below hlt hal) (fun g hg => Nat.lt_of_lt_of_le (hlt g hg) hal.size) h0 (by omega) h2)
  have C2 : ∀ w1, (w.alloc (.cells #[.int .i64 m, v, u] 42)).grownBy w1 v.ownBlock → Hid (Calls Try.prog 86 #[u, .int .i64 (k + (l.length : Int) * 3)] w1 fun e w' => e = .returned (.int .i64 (k + (l.length : Int) * 3 + (s.length : Int) * 3)) ∧ Marked w' u (s.length * 3) (k + (l.length : Int) * 3) ∧ w1.grownBy w' u.ownBlock) := fun w1 hg =>
    Lib.hid (markSurgeS_any u s (k + (l.length : Int) * 3) w1 ((h'.below hal).grownS hg n1) ((hfz'.below hlt' hal).grownS (fun g hg => Nat.lt_of_lt_of_le (hlt' g hg) hal.size) hg n1) (by omega) (by omega) h3)
  have B0 := Blk.new w #[.int .i64 m, v, u] 42
  have X : ∀ w1, (w.alloc (.cells #[.int .i64 m, v, u] 42)).grownBy w1 v.ownBlock → w1.cell? ⟨w.heap.size, 2, none⟩ = some u := fun w1 hg => (B0.grown hg (fun e => by have := hlt _ e.symm; omega)).cell 2
  have HX := Lib.hid X
  have HAL := Lib.hid hal
  have N2 := Lib.hid n2
  obtain ⟨A, c, rfl⟩ := h.at
  obtain ⟨A', c', rfl⟩ := h'.at
  clear hal h hfz hlt h' hfz' hlt' n1 n2 B0 X ha
  go_enter Try.func50, Try.ntmps50
  go_wp2_with fail
  refine C.out.mono ?_
  rintro e w1 ⟨rfl, hm, hg⟩
  have C3 := C2 w1 hg
  have hx := HX.out w1 hg
  have HM := Lib.hid hm
  have HG := Lib.hid hg
  clear C C2 hm hg
  go_wp2_with fail
  refine C3.out.mono ?_
  rintro e w2 ⟨rfl, hm2, hg2⟩
  have HM2 := Lib.hid hm2
  have HG2 := Lib.hid hg2
  clear hm2 hg2 hx
  go_wp2
  go_ret
  exact ⟨rfl, HM.out.grown HG2.out N2.out, HM2.out, w1, (grown_of_below HAL.out _).trans HG.out, HG2.out⟩

end Go.Proofs.Ytdpidbkkhmombaa
