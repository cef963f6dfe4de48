
/- The exact law of StayingMoves holds for all arguments: impl.StayingMoves answers as its model, its answer owns its memory, and the arguments read as before. No condition. -/
import Derived.Test.YtfofbnpgjdagkaaRows
import Derived.Test.YtfofbnpgjdagkaaKit
import Derived.Test.YtfofbnpgjdagkaaDrawMoves
import Derived.Test.YtfofbnpgjdagkaaMovesImpl
import Derived.Test.YtfofbnpgjdagkaaInts
import Derived.Test.YtfofbnpgjdagkaaTouch
import Derived.Deep.RegionHeld3
import Derived.Deep.DeepCutAuto
namespace Go.Proofs.Ytfofbnpgjdagkaa.exactStayingMoves
open Go.ChangeShapes Go.WideShapes Go.ChangeAt Go.RowKit
set_option maxRecDepth 100000

theorem own : ownKnob Try.prog.godebug = none := by kernel_rfl
theorem laidOut : laidOutB Try.prog = true := by kernel_rfl

set_option maxHeartbeats 16000000 in
theorem law  (w : World)  :
    Calls Try.prog 11 #[] w fun e w' => e = .returned (.bool true) ∧ Below w.heap.size w w' := by
  have HB0 : Below w.heap.size w w := Below.refl _ _
  have BW := Lib.hid HB0
  clear HB0
  go_enter Try.func11, Try.ntmps11
  have B0 := Lib.hid (Below.refl (w).heap.size w)
  have hs0 : w.heap.size ≤ (w).heap.size := BW.out.size
  obtain ⟨r0, hr0⟩ : ∃ r0, (List.replicate 64 (0 : Int)) = r0 := ⟨_, rfl⟩
  have HR0 := Lib.hid hr0
  clear hr0
  -- w0 := spec.StayingMoves()
  have hlen : r0.length ≤ 10000000 := by rw [← HR0.out]; exact (by simp)
  go_wp2_with fail
  refine (specStayingMoves  _  ).mono ?_
  intro e w1 hN
  rw [HR0.out] at hN
  obtain ⟨u1, rfl, o1, hb1⟩ := hN
  have S1 := Lib.hid (OwnInt.sl o1 (by omega))
  have RG1 := Lib.hid (own_range o1)
  have FR1 := Lib.hid (own_freeV o1)
  obtain ⟨D1, k1, rfl⟩ := own_form o1
  have B1 := Lib.hid (B0.out.trans (hb1.mono B0.out.size))
  have hz1 : (w).heap.size ≤ w1.heap.size := hb1.size
  clear o1
  clear hb1 
  -- g0 := impl.StayingMoves()
  go_wp2_with fail
  refine (implStayingMoves  _  ).mono ?_
  intro e w2 hN
  rw [HR0.out] at hN
  obtain ⟨u2, rfl, o2, hb2⟩ := hN
  have S2 := Lib.hid (OwnInt.sl o2 (by omega))
  have RG2 := Lib.hid (own_range o2)
  have FR2 := Lib.hid (own_freeV o2)
  obtain ⟨D2, k2, rfl⟩ := own_form o2
  have B2 := Lib.hid (B1.out.trans (hb2.mono B1.out.size))
  have w0_2 := Lib.hid (S1.out.below hb2)
  have w0F_2 := Lib.hid (FR1.out.below hb2)
  have hz2 : (w1).heap.size ≤ w2.heap.size := hb2.size
  clear o2
  clear hb2 
  -- if !eqIntS(g0, w0) {
  go_wp2_with fail
  refine (eqIntS_same _ _ r0 _ S2.out w0_2.out).mono ?_
  rintro e w3 ⟨rfl, hb3⟩
  have B3 := Lib.hid (B2.out.trans (hb3.mono B2.out.size))
  have w0_3 := Lib.hid (w0_2.out.below hb3)
  have w0F_3 := Lib.hid (w0F_2.out.below hb3)
  have g0_3 := Lib.hid (S2.out.below hb3)
  have g0F_3 := Lib.hid (FR2.out.below hb3)
  have hz3 : (w2).heap.size ≤ w3.heap.size := hb3.size
  clear hb3
  -- m := 1
  -- m = markIntS(g0, m)
  go_wp2_with fail
  refine (markIntS_any _ r0 (1) _ g0_3.out (fun g hg => (g0F_3.out g hg).1) (by omega) (by omega) (by omega)).mono ?_
  rintro e w4 ⟨rfl, mm4, hg4⟩
  have ht4 := touch_grown hg4 RG2.out
  have B4 := Lib.hid (TouchR.below B3.out ht4 B3.out.size (by omega))
  have w0_4 := Lib.hid (SlOf.touch w0_3.out ht4 RG1.out (by omega))
  have w0F_4 := Lib.hid (FreeV.touch w0F_3.out ht4 RG1.out (by omega))
  have hz4 : (w3).heap.size ≤ w4.heap.size := ht4.size
  have MK_g0 := Lib.hid mm4
  clear ht4 hg4 mm4
  -- q := 1
  -- q = heldIntS(g0, q)
  go_wp2_with fail
  refine (heldIntS_any _ r0.length D2 k2 rfl (1) _ MK_g0.out (by omega) (by omega) (by omega)).mono ?_
  rintro e w5 ⟨rfl, hb5⟩
  have B5 := Lib.hid (B4.out.trans (hb5.mono B4.out.size))
  have w0_5 := Lib.hid (w0_4.out.below hb5)
  have w0F_5 := Lib.hid (w0F_4.out.below hb5)
  have mkg0_5 := Lib.hid (MK_g0.out.below hb5)
  have hz5 : (w4).heap.size ≤ w5.heap.size := hb5.size
  clear hb5
  -- if q < 0 {
  -- if q != m {
  -- h0 := impl.StayingMoves()
  go_wp2_with fail
  refine (implStayingMoves  _  ).mono ?_
  intro e w6 hN
  rw [HR0.out] at hN
  obtain ⟨u6, rfl, o6, hb6⟩ := hN
  have S6 := Lib.hid (OwnInt.sl o6 (by omega))
  have RG6 := Lib.hid (own_range o6)
  have FR6 := Lib.hid (own_freeV o6)
  obtain ⟨D6, k6, rfl⟩ := own_form o6
  have B6 := Lib.hid (B5.out.trans (hb6.mono B5.out.size))
  have w0_6 := Lib.hid (w0_5.out.below hb6)
  have w0F_6 := Lib.hid (w0F_5.out.below hb6)
  have mkg0_6 := Lib.hid (mkg0_5.out.below hb6)
  have hz6 : (w5).heap.size ≤ w6.heap.size := hb6.size
  clear o6
  clear hb6 
  -- if !eqIntS(h0, w0) {
  go_wp2_with fail
  refine (eqIntS_same _ _ r0 _ S6.out w0_6.out).mono ?_
  rintro e w7 ⟨rfl, hb7⟩
  have B7 := Lib.hid (B6.out.trans (hb7.mono B6.out.size))
  have w0_7 := Lib.hid (w0_6.out.below hb7)
  have w0F_7 := Lib.hid (w0F_6.out.below hb7)
  have mkg0_7 := Lib.hid (mkg0_6.out.below hb7)
  have h0_7 := Lib.hid (S6.out.below hb7)
  have h0F_7 := Lib.hid (FR6.out.below hb7)
  have hz7 : (w6).heap.size ≤ w7.heap.size := hb7.size
  clear hb7
  -- q = 1
  -- q = heldIntS(g0, q)
  go_wp2_with fail
  refine (heldIntS_any _ r0.length D2 k2 rfl (1) _ mkg0_7.out (by omega) (by omega) (by omega)).mono ?_
  rintro e w8 ⟨rfl, hb8⟩
  have B8 := Lib.hid (B7.out.trans (hb8.mono B7.out.size))
  have w0_8 := Lib.hid (w0_7.out.below hb8)
  have w0F_8 := Lib.hid (w0F_7.out.below hb8)
  have mkg0_8 := Lib.hid (mkg0_7.out.below hb8)
  have h0_8 := Lib.hid (h0_7.out.below hb8)
  have h0F_8 := Lib.hid (h0F_7.out.below hb8)
  have hz8 : (w7).heap.size ≤ w8.heap.size := hb8.size
  clear hb8
  -- if q < 0 {
  -- if q != m {
  -- return true
  go_wp2
  go_ret
  exact ⟨rfl, BW.out.trans (B8.out.mono hs0)⟩

set_option maxRecDepth 100000 in
theorem lifted (os : Os) (started : os.Started) (H : Type) (enc : TypeId × Value → H) :
    ReturnsInHanded {} Try.checked os 11 .any (Rows.fnExactStayingMovesSpec.pre6 enc Try.prog Try.f11 Rows.fnExactStayingMovesRow.domain false) (Rows.fnExactStayingMovesSpec.post enc Try.prog Try.f11 false true false false) := by
  refine returnsInHanded_of_change (C := Try.checked) own started (by kernel_rfl) Try.func11
    (ChangeSpec.witness6 (enc := enc) (C := Try.checked) false ⟨#[], #[], []⟩ 8 (by kernel_rfl) (by kernel_rfl) (by kernel_rfl) (by kernel_rfl)) ?_
  intro W base args ds gs before hval0 hW _ _
  have hval : ∀ (j : Nat) t v, Try.f11.params[j]? = some t → args[j]? = some v → Value.okWide Try.prog W .any base t v := hval0
  have hW' := hW
  obtain ⟨p, q, hA0, hV, rfl, _, _⟩ := hW
  have hA : DataW.TrodAll enc Try.prog W 0 (fun _ => true) true Try.f11.params.toList args.toList ds p := hA0
  rw [Try.params11] at hA hval
  obtain ⟨hargs, rfl, rfl⟩ := trodAll_nil hA
  obtain rfl : args = #[] := by cases args; simp_all
  refine (law  W ).mono fun e W' ⟨he, hb⟩ => ⟨_, he, ?_⟩
  exact law_post laidOut (by kernel_rfl) rfl (by kernel_rfl) Try.underlying4 rfl rfl rfl hW' hb

theorem holds : Rows.FnExactStayingMovesSaid :=
  OpenClaim.holds_of_wide 11 Try.f11 rfl rfl rfl rfl rfl rfl rfl ⟨rfl, rfl, rfl, rfl, rfl⟩ rfl rfl rfl rfl rfl (by kernel_rfl) Try.func11 (by kernel_rfl)
    (of_decide_eq_true (by kernel_rfl)) (by unfold Func.isWrapper; first | (rw [if_pos (by decide +kernel)]; kernel_rfl) | (rw [if_neg (by decide +kernel)]; exact ⟨rfl, rfl⟩))
    (fun os started H enc _ => lifted os started H enc)

end Go.Proofs.Ytfofbnpgjdagkaa.exactStayingMoves
