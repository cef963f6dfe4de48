/- A tide's copy: impl.copyTide, spec.l03Tide: contracts. -/
import Derived.Test.YtbcbbolakjjglaaPartClone
import Derived.Test.YtbcbbolakjjglaaTide
import Derived.Test.YtbcbbolakjjglaaFlat
import Derived.Deep.RegionLaw
namespace Go.Proofs.Ytbcbbolakjjglaa
open Go.RowKit
set_option maxRecDepth 100000

/-- A new tide over a new list. -/
def CopTide (m : Int) (l : List PartD) (w : World) (e : Ending) (w' : World) : Prop := ∃ v', e = .returned (.agg #[.int .i64 m, v']) ∧ OwnP w' w.heap.size v' l ∧ Below w.heap.size w w'

def ClonedP (l : List PartD) (w : World) (b : Nat) (m : Int) (v : Value) (e : Ending) (w1 : World) : Prop := ∃ A c, e = .returned (.slice A l.length c) ∧ Hid (OwnP w1 w.heap.size (.slice A l.length c) l) ∧ Hid (Below w.heap.size w w1) ∧ w1.cell? ⟨b, 0, none⟩ = some (.int .i64 m) ∧ w1.cell? ⟨b, 1, none⟩ = some v ∧ w1.cell? ⟨b + 1, 0, none⟩ = some (.int .i64 0) ∧ w1.cell? ⟨b + 1, 1, none⟩ = some (.slice none 0 0) ∧ w1.frozen? ⟨b + 1, 0, none⟩ = false ∧ w1.frozen? ⟨b + 1, 1, none⟩ = false

set_option maxHeartbeats 2000000 in
theorem copyTide_any (m : Int) (v : Value) (l : List PartD) (w : World) (h : SlP w v l) :
    Calls Try.prog 57 #[.agg #[.int .i64 m, v]] w (CopTide m l w) := by
  have H := Lib.hid h
  obtain ⟨A, c, rfl⟩ := h.at
  clear h
  have C : ∀ n, Hid (Calls Try.prog 83 #[.slice A l.length c] ((((w.alloc (.cells #[.int .i64 m, .slice A l.length c] 25)).alloc (.cells #[.int .i64 0, .slice none 0 0] 25))).drewN n) (ClonedP l (((w.alloc (.cells #[.int .i64 m, .slice A l.length c] 25)).alloc (.cells #[.int .i64 0, .slice none 0 0] 25)).drewN n) w.heap.size m (.slice A l.length c))) := by
    intro n
    refine Lib.hid ((clonePart _ l _ (H.out.below ?_)).mono ?_)
    · refine below_drewN ?_ n
      repeat (first | exact Below.refl _ _ | refine Below.alloc ?_ (by simp <;> omega) _)
    · rintro e w1 ⟨v1, rfl, ho, hb⟩
      obtain ⟨A1, c1, rfl⟩ := own_form ho
      obtain ⟨hc, hf⟩ := bcell hb
      refine ⟨A1, c1, rfl, Lib.hid ho, Lib.hid hb, ?_, ?_, ?_, ?_, ?_, ?_⟩ <;> simp [go_sem, hc, hf]
  go_enter Try.func57, Try.ntmps57
  go_wp2
  go_region_with ((go_at_call 83; (first | refine (C 1).out.mono ?_ | refine (C _).out.mono ?_); rintro e w1 ⟨A1, c1, rfl, ho, hb, k0, k1, k2, k3, k4, k5⟩))
  all_goals
    go_wp2
    have hz := hb.out.size
    simp at hz
    refine bodyPost_ret (v := .agg #[.int .i64 m, .slice A1 l.length c1]) (by simp [results, Try.results57, go_sem, *]) rfl ⟨_, rfl, ?_, ?_⟩
    · refine own_lo (base := w.heap.size + 2) ?_ (by omega)
      repeat (first | exact own_lo ho.out (by simp) | refine own_set_under ?_ (by simp <;> omega) _)
    · repeat (first | exact Below.refl _ _ | refine Below.setCell ?_ (by simp <;> omega) _ | refine Below.alloc ?_ (by simp <;> omega) _ | refine below_drewN ?_ _ | refine Below.drew ?_ | refine Below.trans ?_ (hb.out.mono (by simp <;> omega)))

end Go.Proofs.Ytbcbbolakjjglaa
