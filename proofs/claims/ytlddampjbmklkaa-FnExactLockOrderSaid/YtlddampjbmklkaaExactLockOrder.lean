
/- The exact law of LockOrder holds for all arguments: impl.LockOrder answers as its model, its answer owns its memory, and the arguments read as before. No condition. -/
import Derived.Test.YtlddampjbmklkaaRows
import Derived.Test.YtlddampjbmklkaaKit
import Derived.Test.YtlddampjbmklkaaLockSpec1
import Derived.Test.YtlddampjbmklkaaCycleImpl0
import Derived.Test.YtlddampjbmklkaaLockings5
import Derived.Test.YtlddampjbmklkaaTouch
import Derived.Test.YtlddampjbmklkaaInts
import Derived.Deep.RegionHeld3
import Derived.Deep.DeepCutAuto
namespace Go.Proofs.Ytlddampjbmklkaa.exactLockOrder
open Go.ChangeShapes Go.WideShapes Go.ChangeAt Go.RowKit
set_option maxRecDepth 100000

theorem own : ownKnob Try.prog.godebug = none := by kernel_rfl
theorem laidOut : laidOutB Try.prog = true := by kernel_rfl

set_option maxHeartbeats 16000000 in
theorem law (A0 : Option Addr) (c0 : Nat) (l0 : List LockR) (a1 : Bool) (w : World) (hin0 : LocksIn w A0 c0 l0) :
    Calls Try.prog 6 #[.slice A0 l0.length c0, .bool a1] w fun e w' => e = .returned (.bool true) ∧ Below w.heap.size w w' := by
  have m0 := hin0.1
  have SS0 := Lib.hid hin0
  have bp0 := bulkLock_pos l0
  have HB0 : Below w.heap.size w w := Below.refl _ _
  have BW := Lib.hid HB0
  clear HB0
  go_enter Try.func6, Try.ntmps6
  have B0 := Lib.hid (Below.refl (w).heap.size w)
  have hs0 : w.heap.size ≤ (w).heap.size := BW.out.size
  obtain ⟨r0, hr0⟩ : ∃ r0, (lockOrd (l0.map LockR.d) a1) = r0 := ⟨_, rfl⟩
  have HR0 := Lib.hid hr0
  clear hr0
  -- left := 1 << 20
  -- left = szLockingS(aPlan, left)
  have hl1 : 0 ≤ (1048576 : Int) := by omega
  have hll1 : (1048576 : Int) ≤ 1048576 := by omega
  go_wp2_with fail
  refine (szLockingS_any A0 l0 c0 _ (SS0.out.below (BW.out.trans (B0.out.mono hs0))) (1048576) hl1 hll1).mono ?_
  rintro e w1 ⟨rfl, hb1⟩
  have B1 := Lib.hid (B0.out.trans (hb1.mono B0.out.size))
  have hz1 : (w).heap.size ≤ w1.heap.size := hb1.size
  clear hb1 
  have ps1 := bulkLock_pos l0
  by_cases neg1 : (1048576 : Int) < ((l0.length : Int) + bulkLock l0)
  · rw [leftOf_no neg1]
    go_wp2
    go_ret
    exact ⟨rfl, BW.out.trans (B1.out.mono hs0)⟩
  rw [leftOf_yes neg1]
  have ne1 : ¬ (1048576 - ((l0.length : Int) + bulkLock l0) : Int) < 0 := by omega
  have R0 := Lib.hid (SS0.out.rd (by omega))
  clear SS0
  -- w0 := spec.LockOrder(toLockingS(aPlan), aUp)
  go_wp2_with fail
  refine (toLockingS_any _ l0 _ (R0.out.below (BW.out.trans (B1.out.mono hs0)))).mono ?_
  rintro e w2 ⟨u2, rs2, rfl, o2, hd2, hb2⟩
  have hq2 : (rs2.length : Int) + bulkLock rs2 ≤ 1048576 := by
    have e := congrArg List.length hd2
    rw [List.length_map, List.length_map] at e
    rw [bulkLock_same hd2, e]; omega
  have HD2 := Lib.hid hd2
  have bq2 := bulkLock_pos rs2
  obtain ⟨⟨D2, k2, rfl⟩, s2, fr2, frs2, rg2, rgs2, pw2, apv2, shp2⟩ := o2.parts (by omega)
  have S2 := Lib.hid s2
  have FR2 := Lib.hid fr2
  have FRS2 := Lib.hid frs2
  have RG2 := Lib.hid rg2
  have RGS2 := Lib.hid rgs2
  have PW2 := Lib.hid pw2
  have APV2 := Lib.hid apv2
  have SHP2 := Lib.hid shp2
  clear s2 fr2 frs2 rg2 rgs2 pw2 apv2 shp2
  have B2 := Lib.hid (B1.out.trans (hb2.mono B1.out.size))
  have hz2 : (w1).heap.size ≤ w2.heap.size := hb2.size
  clear hb2 o2 hd2
  have hlen : r0.length ≤ 10000000 := by rw [← HR0.out]; exact (by have := lockOrd_all l0 a1; omega)
  go_wp2_with fail
  refine (specLockOrder _ rs2 a1 _ S2.out (by omega)).mono ?_
  rw [HD2.out]
  intro e w3 hN
  rw [HR0.out] at hN
  obtain ⟨u3, rfl, o3, hb3⟩ := hN
  have S3 := Lib.hid (OwnInt.sl o3 (by omega))
  have RG3 := Lib.hid (own_range o3)
  have FR3 := Lib.hid (own_freeV o3)
  obtain ⟨D3, k3, rfl⟩ := own_form o3
  have B3 := Lib.hid (B2.out.trans (hb3.mono B2.out.size))
  have t2_3 := Lib.hid (S2.out.below hb3)
  have hz3 : (w2).heap.size ≤ w3.heap.size := hb3.size
  clear o3
  clear hb3 
  -- x0 := toLockingS(aPlan)
  go_wp2_with fail
  refine (toLockingS_any _ l0 _ (R0.out.below (BW.out.trans (B3.out.mono hs0)))).mono ?_
  rintro e w4 ⟨u4, rs4, rfl, o4, hd4, hb4⟩
  have hq4 : (rs4.length : Int) + bulkLock rs4 ≤ 1048576 := by
    have e := congrArg List.length hd4
    rw [List.length_map, List.length_map] at e
    rw [bulkLock_same hd4, e]; omega
  have HD4 := Lib.hid hd4
  have bq4 := bulkLock_pos rs4
  obtain ⟨⟨D4, k4, rfl⟩, s4, fr4, frs4, rg4, rgs4, pw4, apv4, shp4⟩ := o4.parts (by omega)
  have S4 := Lib.hid s4
  have FR4 := Lib.hid fr4
  have FRS4 := Lib.hid frs4
  have RG4 := Lib.hid rg4
  have RGS4 := Lib.hid rgs4
  have PW4 := Lib.hid pw4
  have APV4 := Lib.hid apv4
  have SHP4 := Lib.hid shp4
  clear s4 fr4 frs4 rg4 rgs4 pw4 apv4 shp4
  have B4 := Lib.hid (B3.out.trans (hb4.mono B3.out.size))
  have w0_4 := Lib.hid (S3.out.below hb4)
  have w0F_4 := Lib.hid (FR3.out.below hb4)
  have hz4 : (w3).heap.size ≤ w4.heap.size := hb4.size
  clear hb4 o4 hd4
  -- g0 := impl.LockOrder(x0, aUp)
  go_wp2_with fail
  refine (implLockOrder _ rs4 a1 _ S4.out (by omega)).mono ?_
  rw [HD4.out]
  intro e w5 hN
  rw [HR0.out] at hN
  obtain ⟨u5, rfl, o5, hb5⟩ := hN
  have S5 := Lib.hid (OwnInt.sl o5 (by omega))
  have RG5 := Lib.hid (own_range o5)
  have FR5 := Lib.hid (own_freeV o5)
  obtain ⟨D5, k5, rfl⟩ := own_form o5
  have B5 := Lib.hid (B4.out.trans (hb5.mono B4.out.size))
  have w0_5 := Lib.hid (w0_4.out.below hb5)
  have w0F_5 := Lib.hid (w0F_4.out.below hb5)
  have x0_5 := Lib.hid (S4.out.below hb5)
  have x0F_5 := Lib.hid (FR4.out.below hb5)
  have x0FS_5 := Lib.hid (FRS4.out.below hb5)
  have hz5 : (w4).heap.size ≤ w5.heap.size := hb5.size
  clear o5
  clear hb5 
  -- if !eqIntS(g0, w0) {
  go_wp2_with fail
  refine (eqIntS_same _ _ r0 _ S5.out w0_5.out).mono ?_
  rintro e w6 ⟨rfl, hb6⟩
  have B6 := Lib.hid (B5.out.trans (hb6.mono B5.out.size))
  have w0_6 := Lib.hid (w0_5.out.below hb6)
  have w0F_6 := Lib.hid (w0F_5.out.below hb6)
  have x0_6 := Lib.hid (x0_5.out.below hb6)
  have x0F_6 := Lib.hid (x0F_5.out.below hb6)
  have x0FS_6 := Lib.hid (x0FS_5.out.below hb6)
  have g0_6 := Lib.hid (S5.out.below hb6)
  have g0F_6 := Lib.hid (FR5.out.below hb6)
  have hz6 : (w5).heap.size ≤ w6.heap.size := hb6.size
  clear hb6
  -- if !eqLockingS(x0, toLockingS(aPlan)) {
  go_wp2_with fail
  refine (toLockingS_any _ l0 _ (R0.out.below (BW.out.trans (B6.out.mono hs0)))).mono ?_
  rintro e w7 ⟨u7, rs7, rfl, o7, hd7, hb7⟩
  have hq7 : (rs7.length : Int) + bulkLock rs7 ≤ 1048576 := by
    have e := congrArg List.length hd7
    rw [List.length_map, List.length_map] at e
    rw [bulkLock_same hd7, e]; omega
  have HD7 := Lib.hid hd7
  have bq7 := bulkLock_pos rs7
  obtain ⟨⟨D7, k7, rfl⟩, s7, fr7, frs7, rg7, rgs7, pw7, apv7, shp7⟩ := o7.parts (by omega)
  have S7 := Lib.hid s7
  have FR7 := Lib.hid fr7
  have FRS7 := Lib.hid frs7
  have RG7 := Lib.hid rg7
  have RGS7 := Lib.hid rgs7
  have PW7 := Lib.hid pw7
  have APV7 := Lib.hid apv7
  have SHP7 := Lib.hid shp7
  clear s7 fr7 frs7 rg7 rgs7 pw7 apv7 shp7
  have B7 := Lib.hid (B6.out.trans (hb7.mono B6.out.size))
  have w0_7 := Lib.hid (w0_6.out.below hb7)
  have w0F_7 := Lib.hid (w0F_6.out.below hb7)
  have x0_7 := Lib.hid (x0_6.out.below hb7)
  have x0F_7 := Lib.hid (x0F_6.out.below hb7)
  have x0FS_7 := Lib.hid (x0FS_6.out.below hb7)
  have g0_7 := Lib.hid (g0_6.out.below hb7)
  have g0F_7 := Lib.hid (g0F_6.out.below hb7)
  have hz7 : (w6).heap.size ≤ w7.heap.size := hb7.size
  clear hb7 o7 hd7
  go_wp2_with fail
  refine (eqLockingS_same _ _ rs4 rs7 _ x0_7.out S7.out (HD4.out.trans HD7.out.symm)).mono ?_
  rintro e w8 ⟨rfl, hb8⟩
  have B8 := Lib.hid (B7.out.trans (hb8.mono B7.out.size))
  have w0_8 := Lib.hid (w0_7.out.below hb8)
  have w0F_8 := Lib.hid (w0F_7.out.below hb8)
  have x0_8 := Lib.hid (x0_7.out.below hb8)
  have x0F_8 := Lib.hid (x0F_7.out.below hb8)
  have x0FS_8 := Lib.hid (x0FS_7.out.below hb8)
  have g0_8 := Lib.hid (g0_7.out.below hb8)
  have g0F_8 := Lib.hid (g0F_7.out.below hb8)
  have hz8 : (w7).heap.size ≤ w8.heap.size := hb8.size
  clear hb8
  -- k := 1
  -- k = markLockingS(x0, k)
  go_wp2_with fail
  refine (markLockingS_any _ rs4 (1) _ _ _ x0_8.out x0F_8.out x0FS_8.out RG4.out RGS4.out PW4.out APV4.out (by omega) (by omega) (by omega)).mono ?_
  rintro e w9 ⟨rfl, mm9, ht9⟩
  have B9 := Lib.hid (TouchR.below B8.out ht9 B8.out.size (by omega))
  have w0_9 := Lib.hid (SlOf.touch w0_8.out ht9 RG3.out (by omega))
  have w0F_9 := Lib.hid (FreeV.touch w0F_8.out ht9 RG3.out (by omega))
  have g0_9 := Lib.hid (SlOf.touch g0_8.out ht9 RG5.out (by omega))
  have g0F_9 := Lib.hid (FreeV.touch g0F_8.out ht9 RG5.out (by omega))
  have hz9 : (w8).heap.size ≤ w9.heap.size := ht9.size
  have MK_x0 := Lib.hid mm9
  clear ht9 mm9
  -- if k < 0 || !eqIntS(g0, w0) {
  go_wp2_with fail
  refine (eqIntS_same _ _ r0 _ g0_9.out w0_9.out).mono ?_
  rintro e w10 ⟨rfl, hb10⟩
  have B10 := Lib.hid (B9.out.trans (hb10.mono B9.out.size))
  have w0_10 := Lib.hid (w0_9.out.below hb10)
  have w0F_10 := Lib.hid (w0F_9.out.below hb10)
  have g0_10 := Lib.hid (g0_9.out.below hb10)
  have g0F_10 := Lib.hid (g0F_9.out.below hb10)
  have mkx0_10 := Lib.hid (MK_x0.out.below hb10)
  have hz10 : (w9).heap.size ≤ w10.heap.size := hb10.size
  clear hb10
  -- m := 1
  -- m = markIntS(g0, m)
  go_wp2_with fail
  refine (markIntS_any _ r0 (1) _ g0_10.out (fun g hg => (g0F_10.out g hg).1) (by omega) (by omega) (by omega)).mono ?_
  rintro e w11 ⟨rfl, mm11, hg11⟩
  have ht11 := touch_grown hg11 RG5.out
  have B11 := Lib.hid (TouchR.below B10.out ht11 B10.out.size (by omega))
  have w0_11 := Lib.hid (SlOf.touch w0_10.out ht11 RG3.out (by omega))
  have w0F_11 := Lib.hid (FreeV.touch w0F_10.out ht11 RG3.out (by omega))
  have hz11 : (w10).heap.size ≤ w11.heap.size := ht11.size
  have MK_g0 := Lib.hid mm11
  clear ht11 hg11 mm11
  -- q := 1
  -- q = heldIntS(g0, q)
  go_wp2_with fail
  refine (heldIntS_any _ r0.length D5 k5 rfl (1) _ MK_g0.out (by omega) (by omega) (by omega)).mono ?_
  rintro e w12 ⟨rfl, hb12⟩
  have B12 := Lib.hid (B11.out.trans (hb12.mono B11.out.size))
  have w0_12 := Lib.hid (w0_11.out.below hb12)
  have w0F_12 := Lib.hid (w0F_11.out.below hb12)
  have mkg0_12 := Lib.hid (MK_g0.out.below hb12)
  have hz12 : (w11).heap.size ≤ w12.heap.size := hb12.size
  clear hb12
  -- if q < 0 {
  -- if q != m {
  -- h0 := impl.LockOrder(toLockingS(aPlan), aUp)
  go_wp2_with fail
  refine (toLockingS_any _ l0 _ (R0.out.below (BW.out.trans (B12.out.mono hs0)))).mono ?_
  rintro e w13 ⟨u13, rs13, rfl, o13, hd13, hb13⟩
  have hq13 : (rs13.length : Int) + bulkLock rs13 ≤ 1048576 := by
    have e := congrArg List.length hd13
    rw [List.length_map, List.length_map] at e
    rw [bulkLock_same hd13, e]; omega
  have HD13 := Lib.hid hd13
  have bq13 := bulkLock_pos rs13
  obtain ⟨⟨D13, k13, rfl⟩, s13, fr13, frs13, rg13, rgs13, pw13, apv13, shp13⟩ := o13.parts (by omega)
  have S13 := Lib.hid s13
  have FR13 := Lib.hid fr13
  have FRS13 := Lib.hid frs13
  have RG13 := Lib.hid rg13
  have RGS13 := Lib.hid rgs13
  have PW13 := Lib.hid pw13
  have APV13 := Lib.hid apv13
  have SHP13 := Lib.hid shp13
  clear s13 fr13 frs13 rg13 rgs13 pw13 apv13 shp13
  have B13 := Lib.hid (B12.out.trans (hb13.mono B12.out.size))
  have w0_13 := Lib.hid (w0_12.out.below hb13)
  have w0F_13 := Lib.hid (w0F_12.out.below hb13)
  have mkg0_13 := Lib.hid (mkg0_12.out.below hb13)
  have hz13 : (w12).heap.size ≤ w13.heap.size := hb13.size
  clear hb13 o13 hd13
  go_wp2_with fail
  refine (implLockOrder _ rs13 a1 _ S13.out (by omega)).mono ?_
  rw [HD13.out]
  intro e w14 hN
  rw [HR0.out] at hN
  obtain ⟨u14, rfl, o14, hb14⟩ := hN
  have S14 := Lib.hid (OwnInt.sl o14 (by omega))
  have RG14 := Lib.hid (own_range o14)
  have FR14 := Lib.hid (own_freeV o14)
  obtain ⟨D14, k14, rfl⟩ := own_form o14
  have B14 := Lib.hid (B13.out.trans (hb14.mono B13.out.size))
  have w0_14 := Lib.hid (w0_13.out.below hb14)
  have w0F_14 := Lib.hid (w0F_13.out.below hb14)
  have mkg0_14 := Lib.hid (mkg0_13.out.below hb14)
  have t13_14 := Lib.hid (S13.out.below hb14)
  have hz14 : (w13).heap.size ≤ w14.heap.size := hb14.size
  clear o14
  clear hb14 
  -- if !eqIntS(h0, w0) {
  go_wp2_with fail
  refine (eqIntS_same _ _ r0 _ S14.out w0_14.out).mono ?_
  rintro e w15 ⟨rfl, hb15⟩
  have B15 := Lib.hid (B14.out.trans (hb15.mono B14.out.size))
  have w0_15 := Lib.hid (w0_14.out.below hb15)
  have w0F_15 := Lib.hid (w0F_14.out.below hb15)
  have mkg0_15 := Lib.hid (mkg0_14.out.below hb15)
  have h0_15 := Lib.hid (S14.out.below hb15)
  have h0F_15 := Lib.hid (FR14.out.below hb15)
  have hz15 : (w14).heap.size ≤ w15.heap.size := hb15.size
  clear hb15
  -- q = 1
  -- q = heldIntS(g0, q)
  go_wp2_with fail
  refine (heldIntS_any _ r0.length D5 k5 rfl (1) _ mkg0_15.out (by omega) (by omega) (by omega)).mono ?_
  rintro e w16 ⟨rfl, hb16⟩
  have B16 := Lib.hid (B15.out.trans (hb16.mono B15.out.size))
  have w0_16 := Lib.hid (w0_15.out.below hb16)
  have w0F_16 := Lib.hid (w0F_15.out.below hb16)
  have mkg0_16 := Lib.hid (mkg0_15.out.below hb16)
  have h0_16 := Lib.hid (h0_15.out.below hb16)
  have h0F_16 := Lib.hid (h0F_15.out.below hb16)
  have hz16 : (w15).heap.size ≤ w16.heap.size := hb16.size
  clear hb16
  -- if q < 0 {
  -- if q != m {
  -- return true
  go_wp2
  go_ret
  exact ⟨rfl, BW.out.trans (B16.out.mono hs0)⟩

set_option maxRecDepth 100000 in
theorem lifted (os : Os) (started : os.Started) (H : Type) (enc : TypeId × Value → H) :
    ReturnsInHanded {} Try.checked os 6 .any (Rows.fnExactLockOrderSpec.pre6 enc Try.prog Try.f6 Rows.fnExactLockOrderRow.domain false) (Rows.fnExactLockOrderSpec.post enc Try.prog Try.f6 false true false false) := by
  refine returnsInHanded_of_change (C := Try.checked) own started (by kernel_rfl) Try.func6
    (ChangeSpec.witness6 (enc := enc) (C := Try.checked) false ⟨#[], #[.slice none 0 0, .bool false], []⟩ 8 (by kernel_rfl) (by kernel_rfl) (by kernel_rfl) (by kernel_rfl)) ?_
  intro W base args ds gs before hval0 hW _ _
  have hval : ∀ (j : Nat) t v, Try.f6.params[j]? = some t → args[j]? = some v → Value.okWide Try.prog W .any base t v := hval0
  have hW' := hW
  obtain ⟨p, q, hA0, hV, rfl, _, _⟩ := hW
  have hA : DataW.TrodAll enc Try.prog W 0 (fun _ => true) true Try.f6.params.toList args.toList ds p := hA0
  rw [Try.params6] at hA hval
  obtain ⟨v0, vs0, d0, ds0, p0, q0, hargs, rfl, rfl, h0, r0⟩ := trodAll_cons hA
  obtain ⟨v1, vs1, d1, ds1, p1, q1, rfl, rfl, rfl, h1, r1⟩ := trodAll_cons r0
  obtain ⟨rfl, rfl, rfl⟩ := trodAll_nil r1
  obtain rfl : args = #[v0, v1] := by cases args; simp_all
  obtain ⟨A0, c0, l0, rfl, g0, _⟩ := open_lockings_arg (hval 0 45 v0 rfl rfl) h0
  obtain ⟨a1, rfl, rfl, rfl⟩ := open_bool Try.underlying4 (hval 1 4 v1 rfl rfl) h1
  refine (law A0 c0 l0 a1 W g0).mono fun e W' ⟨he, hb⟩ => ⟨_, he, ?_⟩
  exact law_post laidOut (by kernel_rfl) rfl (by kernel_rfl) Try.underlying4 rfl rfl rfl hW' hb

theorem holds : Rows.FnExactLockOrderSaid :=
  OpenClaim.holds_of_wide 6 Try.f6 rfl rfl rfl rfl rfl rfl rfl ⟨rfl, rfl, rfl, rfl, rfl⟩ rfl rfl rfl rfl rfl (by kernel_rfl) Try.func6 (by kernel_rfl)
    (of_decide_eq_true (by kernel_rfl)) (by unfold Func.isWrapper; first | (rw [if_pos (by decide +kernel)]; kernel_rfl) | (rw [if_neg (by decide +kernel)]; exact ⟨rfl, rfl⟩))
    (fun os started H enc _ => lifted os started H enc)

end Go.Proofs.Ytlddampjbmklkaa.exactLockOrder
