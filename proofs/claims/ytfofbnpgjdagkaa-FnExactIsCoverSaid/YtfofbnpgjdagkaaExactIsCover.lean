
/- The exact law of IsCover holds for all arguments: impl.IsCover answers as its model, and the arguments read as before. No condition. -/
import Derived.Test.YtfofbnpgjdagkaaRows
import Derived.Test.YtfofbnpgjdagkaaKit
import Derived.Test.YtfofbnpgjdagkaaCoverSpec
import Derived.Test.YtfofbnpgjdagkaaTakeImpl
import Derived.Test.YtfofbnpgjdagkaaDutys
import Derived.Test.YtfofbnpgjdagkaaDutysArg
import Derived.Test.YtfofbnpgjdagkaaInts
import Derived.Test.YtfofbnpgjdagkaaTouch
import Derived.Deep.RegionHeld3
import Derived.Deep.DeepCutAuto
namespace Go.Proofs.Ytfofbnpgjdagkaa.exactIsCover
open Go.ChangeShapes Go.WideShapes Go.ChangeAt Go.RowKit
set_option maxRecDepth 100000

theorem own : ownKnob Try.prog.godebug = none := by kernel_rfl
theorem laidOut : laidOutB Try.prog = true := by kernel_rfl

set_option maxHeartbeats 16000000 in
theorem law (a0 : Int) (A1 : Option Addr) (c1 : Nat) (l1 : List IntD) (A2 : Option Addr) (c2 : Nat) (l2 : List DutyD) (A3 : Option Addr) (c3 : Nat) (l3 : List IntD) (w : World) (_ : (Lit.int .i64 a0).wf = true) (hin1 : l1.length ≤ maxLen ∧ (l1.length ≤ 1000000000 → SlInt w (.slice A1 l1.length c1) l1) ∧ ∀ x ∈ l1, IntD.wf x) (hin2 : l2.length ≤ maxLen ∧ (l2.length ≤ 1000000000 → SlDuty w (.slice A2 l2.length c2) l2) ∧ ∀ x ∈ l2, DutyD.wf x) (hin3 : l3.length ≤ maxLen ∧ (l3.length ≤ 1000000000 → SlInt w (.slice A3 l3.length c3) l3) ∧ ∀ x ∈ l3, IntD.wf x) :
    Calls Try.prog 8 #[.int .i64 a0, .slice A1 l1.length c1, .slice A2 l2.length c2, .slice A3 l3.length c3] w fun e w' => e = .returned (.bool true) ∧ Below w.heap.size w w' := by
  obtain ⟨m1, s1, f1⟩ := hin1
  unfold maxLen at m1
  have SS1 := Lib.hid s1
  have FF1 := Lib.hid f1
  clear s1 f1
  obtain ⟨m2, s2, f2⟩ := hin2
  unfold maxLen at m2
  have SS2 := Lib.hid s2
  have FF2 := Lib.hid f2
  clear s2 f2
  obtain ⟨m3, s3, f3⟩ := hin3
  unfold maxLen at m3
  have SS3 := Lib.hid s3
  have FF3 := Lib.hid f3
  clear s3 f3
  have HB0 : Below w.heap.size w w := Below.refl _ _
  have BW := Lib.hid HB0
  clear HB0
  go_enter Try.func8, Try.ntmps8
  have B0 := Lib.hid (Below.refl (w).heap.size w)
  have hs0 : w.heap.size ≤ (w).heap.size := BW.out.size
  obtain ⟨r0, hr0⟩ : ∃ r0, (isCovB a0 l1 l2 l3) = r0 := ⟨_, rfl⟩
  have HR0 := Lib.hid hr0
  clear hr0
  -- if len(aMoves) > 1<<20 {
  by_cases big1 : 1048576 < l1.length
  · go_wp2
    go_ret
    exact ⟨rfl, BW.out.trans (B0.out.mono hs0)⟩
  have R1 := Lib.hid (SS1.out (by omega))
  clear SS1
  -- if len(aWho) > 1<<20 {
  by_cases big3 : 1048576 < l3.length
  · go_wp2
    go_ret
    exact ⟨rfl, BW.out.trans (B0.out.mono hs0)⟩
  have R3 := Lib.hid (SS3.out (by omega))
  clear SS3
  -- left := 1 << 20
  -- left = szDutyS(aList, left)
  have hl1 : 0 ≤ (1048576 : Int) := by omega
  have hll1 : (1048576 : Int) ≤ 1048576 := by omega
  go_wp2_with fail
  refine (szDutyS_any A2 l2 c2 _ (by omega) (fun h => (SS2.out h).below (BW.out.trans (B0.out.mono hs0))) (1048576) hl1 hll1).mono ?_
  rintro e w1 ⟨rfl, hb1⟩
  have B1 := Lib.hid (B0.out.trans (hb1.mono B0.out.size))
  have hz1 : (w).heap.size ≤ w1.heap.size := hb1.size
  clear hb1 
  have ps1 := bulkDuty_pos l2
  by_cases neg1 : (1048576 : Int) < ((l2.length : Int) + bulkDuty l2)
  · rw [leftOf_no neg1]
    go_wp2
    go_ret
    exact ⟨rfl, BW.out.trans (B1.out.mono hs0)⟩
  rw [leftOf_yes neg1]
  have ne1 : ¬ (1048576 - ((l2.length : Int) + bulkDuty l2) : Int) < 0 := by omega
  have R2 := Lib.hid (SS2.out (by omega))
  clear SS2
  -- w0 := spec.IsCover(aPause, toIntS(aMoves), toDutyS(aList), toIntS(aWho))
  go_wp2_with fail
  refine (toIntS_any _ l1 _ (R1.out.below (BW.out.trans (B1.out.mono hs0)))).mono ?_
  rintro e w2 ⟨u2, rfl, o2, hb2⟩
  have S2 := Lib.hid (OwnInt.sl o2 (by omega))
  have RG2 := Lib.hid (own_range o2)
  have FR2 := Lib.hid (own_freeV o2)
  obtain ⟨D2, k2, rfl⟩ := own_form o2
  have B2 := Lib.hid (B1.out.trans (hb2.mono B1.out.size))
  have hz2 : (w1).heap.size ≤ w2.heap.size := hb2.size
  clear hb2 o2
  go_wp2_with fail
  refine (toDutyS_any _ l2 _ (R2.out.below (BW.out.trans (B2.out.mono hs0)))).mono ?_
  rintro e w3 ⟨u3, rfl, o3, hb3⟩
  have S3 := Lib.hid (OwnDuty.sl o3 (by omega))
  have RG3 := Lib.hid (own_range o3)
  have FR3 := Lib.hid (own_freeV o3)
  obtain ⟨D3, k3, rfl⟩ := own_form o3
  have B3 := Lib.hid (B2.out.trans (hb3.mono B2.out.size))
  have t2_3 := Lib.hid (S2.out.below hb3)
  have hz3 : (w2).heap.size ≤ w3.heap.size := hb3.size
  clear hb3 o3
  go_wp2_with fail
  refine (toIntS_any _ l3 _ (R3.out.below (BW.out.trans (B3.out.mono hs0)))).mono ?_
  rintro e w4 ⟨u4, rfl, o4, hb4⟩
  have S4 := Lib.hid (OwnInt.sl o4 (by omega))
  have RG4 := Lib.hid (own_range o4)
  have FR4 := Lib.hid (own_freeV o4)
  obtain ⟨D4, k4, rfl⟩ := own_form o4
  have B4 := Lib.hid (B3.out.trans (hb4.mono B3.out.size))
  have t2_4 := Lib.hid (t2_3.out.below hb4)
  have t3_4 := Lib.hid (S3.out.below hb4)
  have hz4 : (w3).heap.size ≤ w4.heap.size := hb4.size
  clear hb4 o4
  go_wp2_with fail
  refine (specIsCover a0 _ l1 _ l2 _ l3 _ t2_4.out t3_4.out S4.out ).mono ?_
  rw [HR0.out]
  rintro e w5 ⟨rfl, hb5⟩
  have B5 := Lib.hid (B4.out.trans (hb5.mono B4.out.size))
  have t2_5 := Lib.hid (t2_4.out.below hb5)
  have t3_5 := Lib.hid (t3_4.out.below hb5)
  have t4_5 := Lib.hid (S4.out.below hb5)
  have hz5 : (w4).heap.size ≤ w5.heap.size := hb5.size
  clear hb5 
  -- x1 := toIntS(aMoves)
  go_wp2_with fail
  refine (toIntS_any _ l1 _ (R1.out.below (BW.out.trans (B5.out.mono hs0)))).mono ?_
  rintro e w6 ⟨u6, rfl, o6, hb6⟩
  have S6 := Lib.hid (OwnInt.sl o6 (by omega))
  have RG6 := Lib.hid (own_range o6)
  have FR6 := Lib.hid (own_freeV o6)
  obtain ⟨D6, k6, rfl⟩ := own_form o6
  have B6 := Lib.hid (B5.out.trans (hb6.mono B5.out.size))
  have hz6 : (w5).heap.size ≤ w6.heap.size := hb6.size
  clear hb6 o6
  -- x2 := toDutyS(aList)
  go_wp2_with fail
  refine (toDutyS_any _ l2 _ (R2.out.below (BW.out.trans (B6.out.mono hs0)))).mono ?_
  rintro e w7 ⟨u7, rfl, o7, hb7⟩
  have S7 := Lib.hid (OwnDuty.sl o7 (by omega))
  have RG7 := Lib.hid (own_range o7)
  have FR7 := Lib.hid (own_freeV o7)
  obtain ⟨D7, k7, rfl⟩ := own_form o7
  have B7 := Lib.hid (B6.out.trans (hb7.mono B6.out.size))
  have x1_7 := Lib.hid (S6.out.below hb7)
  have x1F_7 := Lib.hid (FR6.out.below hb7)
  have hz7 : (w6).heap.size ≤ w7.heap.size := hb7.size
  clear hb7 o7
  -- x3 := toIntS(aWho)
  go_wp2_with fail
  refine (toIntS_any _ l3 _ (R3.out.below (BW.out.trans (B7.out.mono hs0)))).mono ?_
  rintro e w8 ⟨u8, rfl, o8, hb8⟩
  have S8 := Lib.hid (OwnInt.sl o8 (by omega))
  have RG8 := Lib.hid (own_range o8)
  have FR8 := Lib.hid (own_freeV o8)
  obtain ⟨D8, k8, rfl⟩ := own_form o8
  have B8 := Lib.hid (B7.out.trans (hb8.mono B7.out.size))
  have x1_8 := Lib.hid (x1_7.out.below hb8)
  have x1F_8 := Lib.hid (x1F_7.out.below hb8)
  have x2_8 := Lib.hid (S7.out.below hb8)
  have x2F_8 := Lib.hid (FR7.out.below hb8)
  have hz8 : (w7).heap.size ≤ w8.heap.size := hb8.size
  clear hb8 o8
  -- g0 := impl.IsCover(aPause, x1, x2, x3)
  go_wp2_with fail
  refine (implIsCover a0 _ l1 _ l2 _ l3 _ x1_8.out x2_8.out S8.out ).mono ?_
  rw [HR0.out]
  rintro e w9 ⟨rfl, hb9⟩
  have B9 := Lib.hid (B8.out.trans (hb9.mono B8.out.size))
  have x1_9 := Lib.hid (x1_8.out.below hb9)
  have x1F_9 := Lib.hid (x1F_8.out.below hb9)
  have x2_9 := Lib.hid (x2_8.out.below hb9)
  have x2F_9 := Lib.hid (x2F_8.out.below hb9)
  have x3_9 := Lib.hid (S8.out.below hb9)
  have x3F_9 := Lib.hid (FR8.out.below hb9)
  have hz9 : (w8).heap.size ≤ w9.heap.size := hb9.size
  clear hb9 
  -- if g0 != w0 {
  -- if !eqIntS(x1, toIntS(aMoves)) {
  go_wp2_with fail
  refine (toIntS_any _ l1 _ (R1.out.below (BW.out.trans (B9.out.mono hs0)))).mono ?_
  rintro e w10 ⟨u10, rfl, o10, hb10⟩
  have S10 := Lib.hid (OwnInt.sl o10 (by omega))
  have RG10 := Lib.hid (own_range o10)
  have FR10 := Lib.hid (own_freeV o10)
  obtain ⟨D10, k10, rfl⟩ := own_form o10
  have B10 := Lib.hid (B9.out.trans (hb10.mono B9.out.size))
  have x1_10 := Lib.hid (x1_9.out.below hb10)
  have x1F_10 := Lib.hid (x1F_9.out.below hb10)
  have x2_10 := Lib.hid (x2_9.out.below hb10)
  have x2F_10 := Lib.hid (x2F_9.out.below hb10)
  have x3_10 := Lib.hid (x3_9.out.below hb10)
  have x3F_10 := Lib.hid (x3F_9.out.below hb10)
  have hz10 : (w9).heap.size ≤ w10.heap.size := hb10.size
  clear hb10 o10
  go_wp2_with fail
  refine (eqIntS_same _ _ l1 _ x1_10.out S10.out).mono ?_
  rintro e w11 ⟨rfl, hb11⟩
  have B11 := Lib.hid (B10.out.trans (hb11.mono B10.out.size))
  have x1_11 := Lib.hid (x1_10.out.below hb11)
  have x1F_11 := Lib.hid (x1F_10.out.below hb11)
  have x2_11 := Lib.hid (x2_10.out.below hb11)
  have x2F_11 := Lib.hid (x2F_10.out.below hb11)
  have x3_11 := Lib.hid (x3_10.out.below hb11)
  have x3F_11 := Lib.hid (x3F_10.out.below hb11)
  have hz11 : (w10).heap.size ≤ w11.heap.size := hb11.size
  clear hb11
  -- if !eqDutyS(x2, toDutyS(aList)) {
  go_wp2_with fail
  refine (toDutyS_any _ l2 _ (R2.out.below (BW.out.trans (B11.out.mono hs0)))).mono ?_
  rintro e w12 ⟨u12, rfl, o12, hb12⟩
  have S12 := Lib.hid (OwnDuty.sl o12 (by omega))
  have RG12 := Lib.hid (own_range o12)
  have FR12 := Lib.hid (own_freeV o12)
  obtain ⟨D12, k12, rfl⟩ := own_form o12
  have B12 := Lib.hid (B11.out.trans (hb12.mono B11.out.size))
  have x1_12 := Lib.hid (x1_11.out.below hb12)
  have x1F_12 := Lib.hid (x1F_11.out.below hb12)
  have x2_12 := Lib.hid (x2_11.out.below hb12)
  have x2F_12 := Lib.hid (x2F_11.out.below hb12)
  have x3_12 := Lib.hid (x3_11.out.below hb12)
  have x3F_12 := Lib.hid (x3F_11.out.below hb12)
  have hz12 : (w11).heap.size ≤ w12.heap.size := hb12.size
  clear hb12 o12
  go_wp2_with fail
  refine (eqDutyS_same _ _ l2 _ x2_12.out S12.out).mono ?_
  rintro e w13 ⟨rfl, hb13⟩
  have B13 := Lib.hid (B12.out.trans (hb13.mono B12.out.size))
  have x1_13 := Lib.hid (x1_12.out.below hb13)
  have x1F_13 := Lib.hid (x1F_12.out.below hb13)
  have x2_13 := Lib.hid (x2_12.out.below hb13)
  have x2F_13 := Lib.hid (x2F_12.out.below hb13)
  have x3_13 := Lib.hid (x3_12.out.below hb13)
  have x3F_13 := Lib.hid (x3F_12.out.below hb13)
  have hz13 : (w12).heap.size ≤ w13.heap.size := hb13.size
  clear hb13
  -- if !eqIntS(x3, toIntS(aWho)) {
  go_wp2_with fail
  refine (toIntS_any _ l3 _ (R3.out.below (BW.out.trans (B13.out.mono hs0)))).mono ?_
  rintro e w14 ⟨u14, rfl, o14, hb14⟩
  have S14 := Lib.hid (OwnInt.sl o14 (by omega))
  have RG14 := Lib.hid (own_range o14)
  have FR14 := Lib.hid (own_freeV o14)
  obtain ⟨D14, k14, rfl⟩ := own_form o14
  have B14 := Lib.hid (B13.out.trans (hb14.mono B13.out.size))
  have x1_14 := Lib.hid (x1_13.out.below hb14)
  have x1F_14 := Lib.hid (x1F_13.out.below hb14)
  have x2_14 := Lib.hid (x2_13.out.below hb14)
  have x2F_14 := Lib.hid (x2F_13.out.below hb14)
  have x3_14 := Lib.hid (x3_13.out.below hb14)
  have x3F_14 := Lib.hid (x3F_13.out.below hb14)
  have hz14 : (w13).heap.size ≤ w14.heap.size := hb14.size
  clear hb14 o14
  go_wp2_with fail
  refine (eqIntS_same _ _ l3 _ x3_14.out S14.out).mono ?_
  rintro e w15 ⟨rfl, hb15⟩
  have B15 := Lib.hid (B14.out.trans (hb15.mono B14.out.size))
  have x1_15 := Lib.hid (x1_14.out.below hb15)
  have x1F_15 := Lib.hid (x1F_14.out.below hb15)
  have x2_15 := Lib.hid (x2_14.out.below hb15)
  have x2F_15 := Lib.hid (x2F_14.out.below hb15)
  have x3_15 := Lib.hid (x3_14.out.below hb15)
  have x3F_15 := Lib.hid (x3F_14.out.below hb15)
  have hz15 : (w14).heap.size ≤ w15.heap.size := hb15.size
  clear hb15
  -- return true
  go_wp2
  go_ret
  exact ⟨rfl, BW.out.trans (B15.out.mono hs0)⟩

set_option maxRecDepth 100000 in
theorem lifted (os : Os) (started : os.Started) (H : Type) (enc : TypeId × Value → H) :
    ReturnsInHanded {} Try.checked os 8 .any (Rows.fnExactIsCoverSpec.pre6 enc Try.prog Try.f8 Rows.fnExactIsCoverRow.domain false) (Rows.fnExactIsCoverSpec.post enc Try.prog Try.f8 false true false false) := by
  refine returnsInHanded_of_change (C := Try.checked) own started (by kernel_rfl) Try.func8
    (ChangeSpec.witness6 (enc := enc) (C := Try.checked) false ⟨#[], #[.int .i64 0, .slice none 0 0, .slice none 0 0, .slice none 0 0], []⟩ 8 (by kernel_rfl) (by kernel_rfl) (by kernel_rfl) (by kernel_rfl)) ?_
  intro W base args ds gs before hval0 hW _ _
  have hval : ∀ (j : Nat) t v, Try.f8.params[j]? = some t → args[j]? = some v → Value.okWide Try.prog W .any base t v := hval0
  have hW' := hW
  obtain ⟨p, q, hA0, hV, rfl, _, _⟩ := hW
  have hA : DataW.TrodAll enc Try.prog W 0 (fun _ => true) true Try.f8.params.toList args.toList ds p := hA0
  rw [Try.params8] at hA hval
  obtain ⟨v0, vs0, d0, ds0, p0, q0, hargs, rfl, rfl, h0, r0⟩ := trodAll_cons hA
  obtain ⟨v1, vs1, d1, ds1, p1, q1, rfl, rfl, rfl, h1, r1⟩ := trodAll_cons r0
  obtain ⟨v2, vs2, d2, ds2, p2, q2, rfl, rfl, rfl, h2, r2⟩ := trodAll_cons r1
  obtain ⟨v3, vs3, d3, ds3, p3, q3, rfl, rfl, rfl, h3, r3⟩ := trodAll_cons r2
  obtain ⟨rfl, rfl, rfl⟩ := trodAll_nil r3
  obtain rfl : args = #[v0, v1, v2, v3] := by cases args; simp_all
  obtain ⟨a0, rfl, rfl, rfl, g0⟩ := open_int Try.underlying3 (hval 0 3 v0 rfl rfl) h0
  obtain ⟨A1, c1, l1, rfl, g1⟩ := open_ints_arg (hval 1 23 v1 rfl rfl) h1
  obtain ⟨A2, c2, l2, rfl, g2⟩ := open_dutys_arg (hval 2 40 v2 rfl rfl) h2
  obtain ⟨A3, c3, l3, rfl, g3⟩ := open_ints_arg (hval 3 23 v3 rfl rfl) h3
  refine (law a0 A1 c1 l1 A2 c2 l2 A3 c3 l3 W g0 g1 g2 g3).mono fun e W' ⟨he, hb⟩ => ⟨_, he, ?_⟩
  exact law_post laidOut (by kernel_rfl) rfl (by kernel_rfl) Try.underlying4 rfl rfl rfl hW' hb

theorem holds : Rows.FnExactIsCoverSaid :=
  OpenClaim.holds_of_wide 8 Try.f8 rfl rfl rfl rfl rfl rfl rfl ⟨rfl, rfl, rfl, rfl, rfl⟩ rfl rfl rfl rfl rfl (by kernel_rfl) Try.func8 (by kernel_rfl)
    (of_decide_eq_true (by kernel_rfl)) (by unfold Func.isWrapper; first | (rw [if_pos (by decide +kernel)]; kernel_rfl) | (rw [if_neg (by decide +kernel)]; exact ⟨rfl, rfl⟩))
    (fun os started H enc _ => lifted os started H enc)

end Go.Proofs.Ytfofbnpgjdagkaa.exactIsCover
