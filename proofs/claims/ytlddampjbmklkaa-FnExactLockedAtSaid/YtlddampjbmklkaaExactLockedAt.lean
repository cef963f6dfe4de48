
/- The exact law of LockedAt holds for all arguments: impl.LockedAt answers as its model, and the arguments read as before. No condition. -/
import Derived.Test.YtlddampjbmklkaaRows
import Derived.Test.YtlddampjbmklkaaKit
import Derived.Test.YtlddampjbmklkaaLockSpec0
import Derived.Test.YtlddampjbmklkaaCycleImpl0
import Derived.Test.YtlddampjbmklkaaLockings5
import Derived.Test.YtlddampjbmklkaaTouch
import Derived.Deep.RegionHeld3
import Derived.Deep.DeepCutAuto
namespace Go.Proofs.Ytlddampjbmklkaa.exactLockedAt
open Go.ChangeShapes Go.WideShapes Go.ChangeAt Go.RowKit
set_option maxRecDepth 100000

theorem own : ownKnob Try.prog.godebug = none := by kernel_rfl
theorem laidOut : laidOutB Try.prog = true := by kernel_rfl

set_option maxHeartbeats 16000000 in
theorem law (A0 : Option Addr) (c0 : Nat) (l0 : List LockR) (a1 : Int) (a2 : Bool) (w : World) (hin0 : LocksIn w A0 c0 l0) (_ : (Lit.int .i64 a1).wf = true) :
    Calls Try.prog 5 #[.slice A0 l0.length c0, .int .i64 a1, .bool a2] w fun e w' => e = .returned (.bool true) ∧ Below w.heap.size w w' := by
  have m0 := hin0.1
  have SS0 := Lib.hid hin0
  have bp0 := bulkLock_pos l0
  have HB0 : Below w.heap.size w w := Below.refl _ _
  have BW := Lib.hid HB0
  clear HB0
  go_enter Try.func5, Try.ntmps5
  have B0 := Lib.hid (Below.refl (w).heap.size w)
  have hs0 : w.heap.size ≤ (w).heap.size := BW.out.size
  obtain ⟨r0, hr0⟩ : ∃ r0, (lockedI (l0.map LockR.d) a1 a2) = r0 := ⟨_, rfl⟩
  have HR0 := Lib.hid hr0
  clear hr0
  -- left := 1 << 20
  -- left = szLockingS(aPlan, left)
  have hl1 : 0 ≤ (1048576 : Int) := by omega
  have hll1 : (1048576 : Int) ≤ 1048576 := by omega
  go_wp2_with fail
  refine (szLockingS_any A0 l0 c0 _ (SS0.out.below (BW.out.trans (B0.out.mono hs0))) (1048576) hl1 hll1).mono ?_
  rintro e w1 ⟨rfl, hb1⟩
  have B1 := Lib.hid (B0.out.trans (hb1.mono B0.out.size))
  have hz1 : (w).heap.size ≤ w1.heap.size := hb1.size
  clear hb1 
  have ps1 := bulkLock_pos l0
  by_cases neg1 : (1048576 : Int) < ((l0.length : Int) + bulkLock l0)
  · rw [leftOf_no neg1]
    go_wp2
    go_ret
    exact ⟨rfl, BW.out.trans (B1.out.mono hs0)⟩
  rw [leftOf_yes neg1]
  have ne1 : ¬ (1048576 - ((l0.length : Int) + bulkLock l0) : Int) < 0 := by omega
  have R0 := Lib.hid (SS0.out.rd (by omega))
  clear SS0
  -- w0 := spec.LockedAt(toLockingS(aPlan), aShip, aUp)
  go_wp2_with fail
  refine (toLockingS_any _ l0 _ (R0.out.below (BW.out.trans (B1.out.mono hs0)))).mono ?_
  rintro e w2 ⟨u2, rs2, rfl, o2, hd2, hb2⟩
  have hq2 : (rs2.length : Int) + bulkLock rs2 ≤ 1048576 := by
    have e := congrArg List.length hd2
    rw [List.length_map, List.length_map] at e
    rw [bulkLock_same hd2, e]; omega
  have HD2 := Lib.hid hd2
  have bq2 := bulkLock_pos rs2
  obtain ⟨⟨D2, k2, rfl⟩, s2, fr2, frs2, rg2, rgs2, pw2, apv2, shp2⟩ := o2.parts (by omega)
  have S2 := Lib.hid s2
  have FR2 := Lib.hid fr2
  have FRS2 := Lib.hid frs2
  have RG2 := Lib.hid rg2
  have RGS2 := Lib.hid rgs2
  have PW2 := Lib.hid pw2
  have APV2 := Lib.hid apv2
  have SHP2 := Lib.hid shp2
  clear s2 fr2 frs2 rg2 rgs2 pw2 apv2 shp2
  have B2 := Lib.hid (B1.out.trans (hb2.mono B1.out.size))
  have hz2 : (w1).heap.size ≤ w2.heap.size := hb2.size
  clear hb2 o2 hd2
  go_wp2_with fail
  refine (specLockedAt _ rs2 a1 a2 _ S2.out ).mono ?_
  rw [HD2.out]
  rw [HR0.out]
  rintro e w3 ⟨rfl, hb3⟩
  have B3 := Lib.hid (B2.out.trans (hb3.mono B2.out.size))
  have t2_3 := Lib.hid (S2.out.below hb3)
  have hz3 : (w2).heap.size ≤ w3.heap.size := hb3.size
  clear hb3 
  -- x0 := toLockingS(aPlan)
  go_wp2_with fail
  refine (toLockingS_any _ l0 _ (R0.out.below (BW.out.trans (B3.out.mono hs0)))).mono ?_
  rintro e w4 ⟨u4, rs4, rfl, o4, hd4, hb4⟩
  have hq4 : (rs4.length : Int) + bulkLock rs4 ≤ 1048576 := by
    have e := congrArg List.length hd4
    rw [List.length_map, List.length_map] at e
    rw [bulkLock_same hd4, e]; omega
  have HD4 := Lib.hid hd4
  have bq4 := bulkLock_pos rs4
  obtain ⟨⟨D4, k4, rfl⟩, s4, fr4, frs4, rg4, rgs4, pw4, apv4, shp4⟩ := o4.parts (by omega)
  have S4 := Lib.hid s4
  have FR4 := Lib.hid fr4
  have FRS4 := Lib.hid frs4
  have RG4 := Lib.hid rg4
  have RGS4 := Lib.hid rgs4
  have PW4 := Lib.hid pw4
  have APV4 := Lib.hid apv4
  have SHP4 := Lib.hid shp4
  clear s4 fr4 frs4 rg4 rgs4 pw4 apv4 shp4
  have B4 := Lib.hid (B3.out.trans (hb4.mono B3.out.size))
  have hz4 : (w3).heap.size ≤ w4.heap.size := hb4.size
  clear hb4 o4 hd4
  -- g0 := impl.LockedAt(x0, aShip, aUp)
  go_wp2_with fail
  refine (implLockedAt _ rs4 a1 a2 _ S4.out ).mono ?_
  rw [HD4.out]
  rw [HR0.out]
  rintro e w5 ⟨rfl, hb5⟩
  have B5 := Lib.hid (B4.out.trans (hb5.mono B4.out.size))
  have x0_5 := Lib.hid (S4.out.below hb5)
  have x0F_5 := Lib.hid (FR4.out.below hb5)
  have x0FS_5 := Lib.hid (FRS4.out.below hb5)
  have hz5 : (w4).heap.size ≤ w5.heap.size := hb5.size
  clear hb5 
  -- if g0 != w0 {
  -- if !eqLockingS(x0, toLockingS(aPlan)) {
  go_wp2_with fail
  refine (toLockingS_any _ l0 _ (R0.out.below (BW.out.trans (B5.out.mono hs0)))).mono ?_
  rintro e w6 ⟨u6, rs6, rfl, o6, hd6, hb6⟩
  have hq6 : (rs6.length : Int) + bulkLock rs6 ≤ 1048576 := by
    have e := congrArg List.length hd6
    rw [List.length_map, List.length_map] at e
    rw [bulkLock_same hd6, e]; omega
  have HD6 := Lib.hid hd6
  have bq6 := bulkLock_pos rs6
  obtain ⟨⟨D6, k6, rfl⟩, s6, fr6, frs6, rg6, rgs6, pw6, apv6, shp6⟩ := o6.parts (by omega)
  have S6 := Lib.hid s6
  have FR6 := Lib.hid fr6
  have FRS6 := Lib.hid frs6
  have RG6 := Lib.hid rg6
  have RGS6 := Lib.hid rgs6
  have PW6 := Lib.hid pw6
  have APV6 := Lib.hid apv6
  have SHP6 := Lib.hid shp6
  clear s6 fr6 frs6 rg6 rgs6 pw6 apv6 shp6
  have B6 := Lib.hid (B5.out.trans (hb6.mono B5.out.size))
  have x0_6 := Lib.hid (x0_5.out.below hb6)
  have x0F_6 := Lib.hid (x0F_5.out.below hb6)
  have x0FS_6 := Lib.hid (x0FS_5.out.below hb6)
  have hz6 : (w5).heap.size ≤ w6.heap.size := hb6.size
  clear hb6 o6 hd6
  go_wp2_with fail
  refine (eqLockingS_same _ _ rs4 rs6 _ x0_6.out S6.out (HD4.out.trans HD6.out.symm)).mono ?_
  rintro e w7 ⟨rfl, hb7⟩
  have B7 := Lib.hid (B6.out.trans (hb7.mono B6.out.size))
  have x0_7 := Lib.hid (x0_6.out.below hb7)
  have x0F_7 := Lib.hid (x0F_6.out.below hb7)
  have x0FS_7 := Lib.hid (x0FS_6.out.below hb7)
  have hz7 : (w6).heap.size ≤ w7.heap.size := hb7.size
  clear hb7
  -- return true
  go_wp2
  go_ret
  exact ⟨rfl, BW.out.trans (B7.out.mono hs0)⟩

set_option maxRecDepth 100000 in
theorem lifted (os : Os) (started : os.Started) (H : Type) (enc : TypeId × Value → H) :
    ReturnsInHanded {} Try.checked os 5 .any (Rows.fnExactLockedAtSpec.pre6 enc Try.prog Try.f5 Rows.fnExactLockedAtRow.domain false) (Rows.fnExactLockedAtSpec.post enc Try.prog Try.f5 false true false false) := by
  refine returnsInHanded_of_change (C := Try.checked) own started (by kernel_rfl) Try.func5
    (ChangeSpec.witness6 (enc := enc) (C := Try.checked) false ⟨#[], #[.slice none 0 0, .int .i64 0, .bool false], []⟩ 8 (by kernel_rfl) (by kernel_rfl) (by kernel_rfl) (by kernel_rfl)) ?_
  intro W base args ds gs before hval0 hW _ _
  have hval : ∀ (j : Nat) t v, Try.f5.params[j]? = some t → args[j]? = some v → Value.okWide Try.prog W .any base t v := hval0
  have hW' := hW
  obtain ⟨p, q, hA0, hV, rfl, _, _⟩ := hW
  have hA : DataW.TrodAll enc Try.prog W 0 (fun _ => true) true Try.f5.params.toList args.toList ds p := hA0
  rw [Try.params5] at hA hval
  obtain ⟨v0, vs0, d0, ds0, p0, q0, hargs, rfl, rfl, h0, r0⟩ := trodAll_cons hA
  obtain ⟨v1, vs1, d1, ds1, p1, q1, rfl, rfl, rfl, h1, r1⟩ := trodAll_cons r0
  obtain ⟨v2, vs2, d2, ds2, p2, q2, rfl, rfl, rfl, h2, r2⟩ := trodAll_cons r1
  obtain ⟨rfl, rfl, rfl⟩ := trodAll_nil r2
  obtain rfl : args = #[v0, v1, v2] := by cases args; simp_all
  obtain ⟨A0, c0, l0, rfl, g0, _⟩ := open_lockings_arg (hval 0 45 v0 rfl rfl) h0
  obtain ⟨a1, rfl, rfl, rfl, g1⟩ := open_int Try.underlying3 (hval 1 3 v1 rfl rfl) h1
  obtain ⟨a2, rfl, rfl, rfl⟩ := open_bool Try.underlying4 (hval 2 4 v2 rfl rfl) h2
  refine (law A0 c0 l0 a1 a2 W g0 g1).mono fun e W' ⟨he, hb⟩ => ⟨_, he, ?_⟩
  exact law_post laidOut (by kernel_rfl) rfl (by kernel_rfl) Try.underlying4 rfl rfl rfl hW' hb

theorem holds : Rows.FnExactLockedAtSaid :=
  OpenClaim.holds_of_wide 5 Try.f5 rfl rfl rfl rfl rfl rfl rfl ⟨rfl, rfl, rfl, rfl, rfl⟩ rfl rfl rfl rfl rfl (by kernel_rfl) Try.func5 (by kernel_rfl)
    (of_decide_eq_true (by kernel_rfl)) (by unfold Func.isWrapper; first | (rw [if_pos (by decide +kernel)]; kernel_rfl) | (rw [if_neg (by decide +kernel)]; exact ⟨rfl, rfl⟩))
    (fun os started H enc _ => lifted os started H enc)

end Go.Proofs.Ytlddampjbmklkaa.exactLockedAt
