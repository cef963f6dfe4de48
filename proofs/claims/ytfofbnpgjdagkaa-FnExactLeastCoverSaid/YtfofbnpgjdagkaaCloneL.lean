
/- slices.Clone over ints (up to nine million of them; without Derived.Lib.SlFresh): contract. -/
import Derived.Test.YtfofbnpgjdagkaaLivLib
import Derived.Test.YtfofbnpgjdagkaaInts
import Derived.Deep.AppendLies
import Derived.Deep.Upon
import Derived.Lib.SliceRun
import Derived.Deep.RegionHeld3
import Derived.Deep.DeepCutAuto
namespace Go.Proofs.Ytfofbnpgjdagkaa
open Go.RowKit
set_option maxRecDepth 100000

set_option maxHeartbeats 2000000 in
theorem cloneL (v : Value) (l : List Int) (w : World) (h : SlInt w v l) (hn : l.length ≤ 9000000) :
    Calls Try.prog 60 #[v] w (NewInt l w) := by
  have q26 : ∀ (w : World) (a : Option Addr) (n c n' c' : Nat), (binOp .eql 23 (.slice a n c) (.slice none n' c')).run Try.prog w = .ok (.bool a.isNone) w := fun w a n c n' c' => Lib.run_eql_slice_nil w _ _ a n c n' c' Try.underlying23
  have L1 := Liv.build (Liv.nil w) 0 [] (by simp)
  have RS := Lib.hid (h.below L1.low)
  have L1 := Lib.hid L1
  have HS := Lib.hid h
  obtain ⟨A, c, rfl⟩ := h.at
  clear h
  cases A with
  | none =>
    have e : l = [] := by
      rcases HS.out.2 with ⟨he, _⟩ | ⟨g, o, c', e, _, _, _⟩
      · exact he
      · injection e with e1; cases e1
    have E := Lib.hid e
    clear e RS L1
    go_enter Try.func60, Try.ntmps60
    go_wp2
    go_ret
    exact ⟨_, rfl, by rw [E.out]; exact World.ownsRow_nil _ _ _ _, Below.refl _ _⟩
  | some a =>
    obtain ⟨m, hm⟩ : ∃ m, l.length = m := ⟨_, rfl⟩
    rw [hm] at RS hn
    try rw [hm]
    have HM := Lib.hid hm
    clear hm
    go_enter Try.func60, Try.ntmps60
    go_wp2_with (at_builtin; refine wpList_plain rfl fun K hK => wp_of_step (ops := #[]) rfl (step_liv L1.out (L' := []) (τ := 0) (v := .slice (some ⟨w.heap.size, 0, none⟩) 0 0) (u := .slice (some a) m c) (l := []) (m := l) 0 rfl (.tmp 5) (.tmp 6) rfl rfl rfl List.mem_cons_self RS.out (by rw [HM.out]; simp; omega) (fun q hq => by cases hq) ?_); intro v5 x5 hl5; refine hK _ _ ?_; have L5 := Lib.hid hl5; clear hl5)
    have HO := Lib.hid (L5.out.own _ List.mem_cons_self)
    have HL := Lib.hid L5.out.low
    clear L5
    go_ret
    exact ⟨_, rfl, HO.out, HL.out⟩
end Go.Proofs.Ytfofbnpgjdagkaa
