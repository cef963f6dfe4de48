
/- GatherWindows of the program: contract. -/
import Derived.Test.YtmjdlkninibocaaWinSort
import Derived.Test.YtmjdlkninibocaaWinMerge
import Derived.Test.YtmjdlkninibocaaWinGatherSpec
namespace Go.Proofs.Ytmjdlkninibocaa
open Go.RowKit
set_option maxRecDepth 100000

theorem Sorted.len {l l' : List WindowD} (h : Sorted l l') : l'.length = l.length := h.1.length_eq
theorem Sorted.gath {l l' : List WindowD} (h : Sorted (timeP l) l') : mergeF l' = gathL l := by
  refine merge_eq_marks h.2 (fun x hx => timeP_time l x (h.1.mem_iff.1 hx)) (fun j hj => ?_)
  rw [has_iff, ← timeP_has l (j : Int) (by omega) (by omega)]
  constructor
  · rintro ⟨x, hx, h1, h2⟩; exact ⟨x, h.1.mem_iff.2 hx, h1, h2⟩
  · rintro ⟨x, hx, h1, h2⟩; exact ⟨x, h.1.mem_iff.1 hx, h1, h2⟩

/-- What a sorted collection leaves. -/
def SortQ (xs : List WindowD) (w : World) (e : Ending) (w' : World) : Prop :=
  ∃ A c l', e = .returned (.slice A l'.length c) ∧ Sorted xs l' ∧ SlWindow w' (.slice A l'.length c) l' ∧ Below w.heap.size w w'

set_option maxHeartbeats 2000000 in
theorem sortedFunc_any (g : Nat) (lb : Array Value) (n₀ N : Nat) (xs : List WindowD) (w : World) (hseq : SeqW g lb (Kp2 36 n₀) N xs w) (hn₀ : n₀ ≤ w.heap.size) (eg : ∀ args w, (callFunc g args).run Try.prog w = .ok (.enter g args) w) (hlen : N ≤ 4000000000) (hxs : xs.length ≤ 1000000000) :
    Calls Try.prog 27 #[.func (.func g) #[] lb, .func (.func 29) #[] #[]] w (SortQ xs w) := by
  have HC := Lib.hid (collect_any g lb n₀ N xs w hseq hn₀ eg hlen)
  clear hseq eg
  go_enter Try.func27, Try.ntmps27
  go_wp2_with fail
  refine HC.out.mono ?_
  intro e w1 hnew
  obtain ⟨v, rfl, h1, h2⟩ := hnew
  have CF := Lib.hid (sortFunc_any v xs w.heap.size w1 h1 h2.size hxs)
  have B1 := Lib.hid h2
  obtain ⟨A, c, rfl⟩ := own_form h1
  clear h1 h2
  go_wp2_with fail
  refine CF.out.mono ?_
  rintro e w2 ⟨rfl, l', hs, hsl, hb⟩
  have HS := Lib.hid hs
  have HL := Lib.hid hsl
  have B2 := Lib.hid (B1.out.trans hb)
  clear hs hsl hb
  go_wp2
  go_ret
  refine ⟨A, c, l', by rw [HS.out.len]; rfl, HS.out, ?_, B2.out⟩
  rw [HS.out.len]
  exact HL.out

set_option maxHeartbeats 4000000 in
theorem implGatherWindows (v : Value) (l : List WindowD) (w : World) (h : SlWindow w v l) :
    Calls Try.prog 7 #[v] w (NewWindow (gathL l) w) := by
  have hl := h.1
  have H := Lib.hid h
  obtain ⟨A, c, rfl⟩ := h.at
  clear h
  go_enter Try.func7, Try.ntmps7
  go_wp2_with fail
  refine (inTime_any _ _ _ _).mono ?_
  rintro e w1 ⟨rfl, hw1⟩
  have hal : Below w.heap.size w w1 := by rw [hw1]; exact Joins.below_alloc1 w _
  have bx : Blk w1 w.heap.size #[.slice A l.length c] 23 := by rw [hw1]; exact Blk.new _ _ _
  have B1 := Lib.hid hal
  have HS := Lib.hid (inTime1 A c l w.heap.size w1 (H.out.below hal) bx.lt (bx.cell 0))
  have CC := Lib.hid (sortedFunc_any _ _ _ _ _ _ HS.out (Nat.le_refl _) (enters_of Try.func46 (by kernel_rfl) rfl) (by omega) (by have := timeP_len l; omega))
  clear hw1 hal bx HS
  go_wp2_with fail
  refine CC.out.mono ?_
  rintro e w2 ⟨A2, c2, l', rfl, hs, hsl, hb2⟩
  have EG := Lib.hid hs.gath
  have hl' : l'.length ≤ 1000000000 := hsl.1
  have HL := Lib.hid hsl
  have B2 := Lib.hid (B1.out.trans (hb2.mono B1.out.size))
  clear hs hsl hb2
  go_wp2_with fail
  refine (values_any _ _ _ _).mono ?_
  rintro e w3 ⟨rfl, hw3⟩
  have hal : Below w2.heap.size w2 w3 := by rw [hw3]; exact Joins.below_alloc1 w2 _
  have bx : Blk w3 w2.heap.size #[.slice A2 l'.length c2] 23 := by rw [hw3]; exact Blk.new _ _ _
  have B3 := Lib.hid (B2.out.trans (hal.mono B2.out.size))
  have HV := Lib.hid (values1 A2 c2 l' w2.heap.size w3 (HL.out.below hal) bx.lt (bx.cell 0))
  have CM := Lib.hid (merge_any _ _ _ _ _ _ HV.out (Nat.le_refl _) (enters_of Try.func44 (by kernel_rfl) rfl) (by omega))
  rw [EG.out] at CM
  clear hw3 hal bx HV
  go_wp2_with fail
  refine CM.out.mono ?_
  intro e w4 hnew
  obtain ⟨v4, rfl, h1, h2⟩ := hnew
  have K1 := Lib.hid h1
  have K2 := Lib.hid h2
  obtain ⟨A3, c3, rfl⟩ := own_form h1
  clear h1 h2
  go_wp2
  go_ret
  exact ⟨_, rfl, own_lo K1.out B3.out.size, B3.out.trans (K2.out.mono B3.out.size)⟩
end Go.Proofs.Ytmjdlkninibocaa
