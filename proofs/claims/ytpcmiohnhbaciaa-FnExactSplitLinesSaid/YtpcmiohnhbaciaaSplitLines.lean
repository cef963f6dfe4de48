/- The exact law of SplitLines holds for every string: impl.SplitLines answers as its model, its answers own their memory, and the string reads as before. No condition. -/
import Derived.Test.YtpcmiohnhbaciaaRows
import Derived.Test.YtpcmiohnhbaciaaLinesSpec
import Derived.Test.YtpcmiohnhbaciaaKit
namespace Go.Proofs.Ytpcmiohnhbaciaa.exactSplitLines
open Go.ChangeShapes Go.WideShapes Go.ChangeAt Go.RowKit
open Go.ChangeMaps (open_string shut_string)

theorem own : ownKnob Try.prog.godebug = none := by kernel_rfl
theorem laidOut : laidOutB Try.prog = true := by kernel_rfl

set_option maxHeartbeats 1000000 in
theorem law (s : ByteArray) (w : World) (hs : s.size ≤ maxLen) :
    Calls Try.prog 6 #[.string s] w fun e w' => e = .returned (.bool true) ∧ Below w.heap.size w w' := by
  unfold maxLen at hs
  by_cases hbig : 1048576 < s.size
  · go_enter Try.func6, Try.ntmps6
    go_wp2
    go_ret
    exact ⟨rfl, Below.refl _ _⟩
  · have hs1 : s.size ≤ 1048576 := by omega
    go_enter Try.func6, Try.ntmps6
    obtain ⟨L, hL⟩ : ∃ L, L = linesL s := ⟨_, rfl⟩
    have hlen : L.length ≤ 1048577 := by rw [hL]; have := linesL_len s; omega
    have c1 := fun w => specSplitLines s w hs1
    have c2 := fun w => implSplitLines s w hs1
    rw [← hL] at c1 c2
    have C1 := Lib.hid c1
    have C2 := Lib.hid c2
    clear c1 c2 hL
    have hn0 : (0 : Int) ≤ (L.length : Int) := Int.natCast_nonneg _
    go_wp2_with fail
    refine (C1.out _).mono ?_
    rintro e w1 ⟨v1, rfl, ho1, hb1⟩
    go_wp2_with fail
    refine (C2.out _).mono ?_
    rintro e w2 ⟨v2, rfl, ho2, hb2⟩
    have s1 := (own_sls ho1 (by omega)).below hb2
    have s2 := own_sls ho2 (by omega)
    have ap := own_apart ho1 ho2 (Nat.le_refl _)
    have fz := own_unfrozen ho2
    have lt2 := World.ownsRow.lt ho2
    have B2 : Below w.heap.size w w2 := hb1.trans (hb2.mono hb1.size)
    have S1 := Lib.hid s1
    have S2 := Lib.hid s2
    have AP := Lib.hid ap
    have FZ := Lib.hid fz
    have LT := Lib.hid lt2
    clear s1 s2 ap fz lt2 ho1 ho2
    go_wp2_with fail
    refine (eqStringS_same _ _ _ _ S2.out S1.out).mono ?_
    rintro e w3 ⟨rfl, n3, rfl⟩
    go_wp2_with fail
    refine (markStringS_any v2 L 1 _ (S2.out.below (below_drewN (Below.refl _ _) n3)) FZ.out (by omega) (by omega)).mono ?_
    rintro e w4 ⟨rfl, s4, g4⟩
    have B4 : Below w.heap.size w w4 := (below_drewN B2 n3).grown g4 B2.size (fun g hg => by have := (LT.out g hg).1; have := hb1.size; omega)
    have S4 := Lib.hid s4
    have S1' := Lib.hid ((S1.out.below (below_drewN (Below.refl _ _) n3)).grown g4 AP.out)
    clear s4 g4
    go_wp2_with fail
    refine (heldStringS_any v2 L.length 1 _ S4.out (by omega) (by omega)).mono ?_
    rintro e w5 ⟨rfl, hb5⟩
    have B5 : Below w.heap.size w w5 := B4.trans (hb5.mono B4.size)
    have S15 := Lib.hid (S1'.out.below hb5)
    have S45 := Lib.hid (S4.out.below hb5)
    have hq : ¬ (1 + (L.length : Int) < 0) := by omega
    go_wp2_with fail
    refine (C2.out _).mono ?_
    rintro e w6 ⟨v6, rfl, ho6, hb6⟩
    have S6 := Lib.hid (own_sls ho6 (by omega))
    have B6 : Below w.heap.size w w6 := B5.trans (hb6.mono B5.size)
    have S16 := Lib.hid (S15.out.below hb6)
    have S46 := Lib.hid (S45.out.below hb6)
    clear ho6
    go_wp2_with fail
    refine (eqStringS_same _ _ _ _ S6.out S16.out).mono ?_
    rintro e w7 ⟨rfl, n7, rfl⟩
    go_wp2_with fail
    refine (heldStringS_any v2 L.length 1 _ (S46.out.below (below_drewN (Below.refl _ _) n7)) (by omega) (by omega)).mono ?_
    rintro e w8 ⟨rfl, hb8⟩
    have B8 : Below w.heap.size w w8 := (below_drewN B6 n7).trans (hb8.mono B6.size)
    go_wp2
    go_ret
    exact ⟨rfl, B8⟩

set_option maxRecDepth 100000 in
theorem lifted (os : Os) (started : os.Started) (H : Type) (enc : TypeId × Value → H) :
    ReturnsInHanded {} Try.checked os 6 .any (Rows.fnExactSplitLinesSpec.pre6 enc Try.prog Try.f6 Rows.fnExactSplitLinesRow.domain false) (Rows.fnExactSplitLinesSpec.post enc Try.prog Try.f6 false true false false) := by
  refine returnsInHanded_of_change (C := Try.checked) own started (by kernel_rfl) Try.func6
    (ChangeSpec.witness6 (enc := enc) (C := Try.checked) false ⟨#[], #[.string ⟨#[]⟩], []⟩ 8 (by kernel_rfl) (by kernel_rfl) (by kernel_rfl) (by kernel_rfl)) ?_
  intro W base args ds gs before hval0 hW _ _
  have hval : ∀ (j : Nat) t v, Try.f6.params[j]? = some t → args[j]? = some v → Value.okWide Try.prog W .any base t v := hval0
  have hW' := hW
  obtain ⟨p, q, hA0, hV, rfl, _, _⟩ := hW
  have hA : DataW.TrodAll enc Try.prog W 0 (fun _ => true) true Try.f6.params.toList args.toList ds p := hA0
  rw [Try.params6] at hA hval
  obtain ⟨v0, vs0, d0, ds0, p0, q0, hargs, rfl, rfl, h0, r0⟩ := trodAll_cons hA
  obtain ⟨rfl, rfl, rfl⟩ := trodAll_nil r0
  obtain rfl : args = #[v0] := by cases args; simp_all
  obtain ⟨a0, rfl, rfl, rfl, g0⟩ := open_string Try.underlying9 (hval 0 9 v0 rfl rfl) h0
  refine (law a0 W g0).mono fun e W' ⟨he, hb⟩ => ⟨_, he, ?_⟩
  exact law_post laidOut (by kernel_rfl) rfl (by kernel_rfl) Try.underlying4 rfl rfl rfl hW' hb

theorem holds : Rows.FnExactSplitLinesSaid :=
  OpenClaim.holds_of_wide 6 Try.f6 rfl rfl rfl rfl rfl rfl rfl ⟨rfl, rfl, rfl, rfl, rfl⟩ rfl rfl rfl rfl rfl (by kernel_rfl) Try.func6 (by kernel_rfl)
    (of_decide_eq_true (by kernel_rfl)) (by unfold Func.isWrapper; first | (rw [if_pos (by decide +kernel)]; kernel_rfl) | (rw [if_neg (by decide +kernel)]; exact ⟨rfl, rfl⟩))
    (fun os started H enc _ => lifted os started H enc)

end Go.Proofs.Ytpcmiohnhbaciaa.exactSplitLines
