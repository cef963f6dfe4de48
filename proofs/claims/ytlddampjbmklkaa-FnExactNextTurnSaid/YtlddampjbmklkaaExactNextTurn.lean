
/- The exact law of NextTurn holds for all arguments: impl.NextTurn answers as its model, and the arguments read as before. No condition. -/
import Derived.Test.YtlddampjbmklkaaRows
import Derived.Test.YtlddampjbmklkaaKit
import Derived.Test.YtlddampjbmklkaaLockSpec2
import Derived.Test.YtlddampjbmklkaaCycleTurn
import Derived.Test.YtlddampjbmklkaaLockings5
import Derived.Test.YtlddampjbmklkaaTouch
import Derived.Deep.RegionHeld3
import Derived.Deep.DeepCutAuto
namespace Go.Proofs.Ytlddampjbmklkaa.exactNextTurn
open Go.ChangeShapes Go.WideShapes Go.ChangeAt Go.RowKit
set_option maxRecDepth 100000

theorem own : ownKnob Try.prog.godebug = none := by kernel_rfl
theorem laidOut : laidOutB Try.prog = true := by kernel_rfl

set_option maxHeartbeats 16000000 in
theorem law (d0 : ChamberD) (A1 : Option Addr) (c1 : Nat) (l1 : List LockR) (a2 : Bool) (a3 : Int) (w : World) (_ : d0.wf) (hin1 : LocksIn w A1 c1 l1) (_ : (Lit.int .i64 a3).wf = true) :
    Calls Try.prog 7 #[.agg #[.int .i64 d0.length, .int .i64 d0.lanes, .int .i64 d0.minutes], .slice A1 l1.length c1, .bool a2, .int .i64 a3] w fun e w' => e = .returned (.bool true) ∧ Below w.heap.size w w' := by
  have m1 := hin1.1
  have SS1 := Lib.hid hin1
  have bp1 := bulkLock_pos l1
  have HB0 : Below w.heap.size w (w.alloc (.cells #[.int .i64 d0.length, .int .i64 d0.lanes, .int .i64 d0.minutes] 43)) := by
    repeat (first | exact Below.refl _ _ | refine Below.alloc ?_ (by simp <;> omega) _)
  have BW := Lib.hid HB0
  clear HB0
  go_enter Try.func7, Try.ntmps7
  have B0 := Lib.hid (Below.refl ((w.alloc (.cells #[.int .i64 d0.length, .int .i64 d0.lanes, .int .i64 d0.minutes] 43))).heap.size (w.alloc (.cells #[.int .i64 d0.length, .int .i64 d0.lanes, .int .i64 d0.minutes] 43)))
  have hs0 : w.heap.size ≤ ((w.alloc (.cells #[.int .i64 d0.length, .int .i64 d0.lanes, .int .i64 d0.minutes] 43))).heap.size := BW.out.size
  have ABX0 := Lib.hid (show ((w.alloc (.cells #[.int .i64 d0.length, .int .i64 d0.lanes, .int .i64 d0.minutes] 43))).cell? ⟨w.heap.size, 0, none⟩ = some (.int .i64 d0.length) ∧ ((w.alloc (.cells #[.int .i64 d0.length, .int .i64 d0.lanes, .int .i64 d0.minutes] 43))).cell? ⟨w.heap.size, 1, none⟩ = some (.int .i64 d0.lanes) ∧ ((w.alloc (.cells #[.int .i64 d0.length, .int .i64 d0.lanes, .int .i64 d0.minutes] 43))).cell? ⟨w.heap.size, 2, none⟩ = some (.int .i64 d0.minutes) from by
    have hBk0 : Blk (w.alloc (.cells #[.int .i64 d0.length, .int .i64 d0.lanes, .int .i64 d0.minutes] 43)) (w.heap.size) #[.int .i64 d0.length, .int .i64 d0.lanes, .int .i64 d0.minutes] 43 := Blk.newAt (w := w) (by first | rfl | simp) _ _
    have hBk : Blk (w.alloc (.cells #[.int .i64 d0.length, .int .i64 d0.lanes, .int .i64 d0.minutes] 43)) (w.heap.size) #[.int .i64 d0.length, .int .i64 d0.lanes, .int .i64 d0.minutes] 43 := hBk0.below (by repeat (first | exact Below.refl _ _ | refine Below.alloc ?_ (by simp) _))
    exact ⟨hBk.cell 0, hBk.cell 1, hBk.cell 2⟩)
  obtain ⟨r0, hr0⟩ : ∃ r0, (nextI d0 (l1.map LockR.d) a2 a3) = r0 := ⟨_, rfl⟩
  have HR0 := Lib.hid hr0
  clear hr0
  -- left := 1 << 20
  -- left = szLockingS(aPlan, left)
  have hl1 : 0 ≤ (1048576 : Int) := by omega
  have hll1 : (1048576 : Int) ≤ 1048576 := by omega
  go_wp2_with fail
  refine (szLockingS_any A1 l1 c1 _ (SS1.out.below (BW.out.trans (B0.out.mono hs0))) (1048576) hl1 hll1).mono ?_
  rintro e w1 ⟨rfl, hb1⟩
  have B1 := Lib.hid (B0.out.trans (hb1.mono B0.out.size))
  have hz1 : ((w.alloc (.cells #[.int .i64 d0.length, .int .i64 d0.lanes, .int .i64 d0.minutes] 43))).heap.size ≤ w1.heap.size := hb1.size
  clear hb1 
  have ps1 := bulkLock_pos l1
  by_cases neg1 : (1048576 : Int) < ((l1.length : Int) + bulkLock l1)
  · rw [leftOf_no neg1]
    go_wp2
    go_ret
    exact ⟨rfl, BW.out.trans (B1.out.mono hs0)⟩
  rw [leftOf_yes neg1]
  have ne1 : ¬ (1048576 - ((l1.length : Int) + bulkLock l1) : Int) < 0 := by omega
  have R1 := Lib.hid (SS1.out.rd (by omega))
  clear SS1
  -- w0 := spec.NextTurn(toChamber(aK), toLockingS(aPlan), aUp, aReady)
  have y0_0 : (w1).cell? ⟨w.heap.size, 0, none⟩ = some (.int .i64 d0.length) := cell_onV (ABX0.out.1) B1.out
  have y0_1 : (w1).cell? ⟨w.heap.size, 1, none⟩ = some (.int .i64 d0.lanes) := cell_onV (ABX0.out.2.1) B1.out
  have y0_2 : (w1).cell? ⟨w.heap.size, 2, none⟩ = some (.int .i64 d0.minutes) := cell_onV (ABX0.out.2.2) B1.out
  go_wp2_with fail
  refine (toChamber_any d0.length d0.lanes d0.minutes _).mono ?_
  rintro e w2 ⟨rfl, hb2⟩
  have B2 := Lib.hid (B1.out.trans (hb2.mono B1.out.size))
  have hz2 : (w1).heap.size ≤ w2.heap.size := hb2.size
  clear hb2 y0_0 y0_1 y0_2
  go_wp2_with fail
  refine (toLockingS_any _ l1 _ (R1.out.below (BW.out.trans (B2.out.mono hs0)))).mono ?_
  rintro e w3 ⟨u3, rs3, rfl, o3, hd3, hb3⟩
  have hq3 : (rs3.length : Int) + bulkLock rs3 ≤ 1048576 := by
    have e := congrArg List.length hd3
    rw [List.length_map, List.length_map] at e
    rw [bulkLock_same hd3, e]; omega
  have HD3 := Lib.hid hd3
  have bq3 := bulkLock_pos rs3
  obtain ⟨⟨D3, k3, rfl⟩, s3, fr3, frs3, rg3, rgs3, pw3, apv3, shp3⟩ := o3.parts (by omega)
  have S3 := Lib.hid s3
  have FR3 := Lib.hid fr3
  have FRS3 := Lib.hid frs3
  have RG3 := Lib.hid rg3
  have RGS3 := Lib.hid rgs3
  have PW3 := Lib.hid pw3
  have APV3 := Lib.hid apv3
  have SHP3 := Lib.hid shp3
  clear s3 fr3 frs3 rg3 rgs3 pw3 apv3 shp3
  have B3 := Lib.hid (B2.out.trans (hb3.mono B2.out.size))
  have hz3 : (w2).heap.size ≤ w3.heap.size := hb3.size
  clear hb3 o3 hd3
  go_wp2_with fail
  refine (specNextTurn d0 _ rs3 a2 a3 _ S3.out ).mono ?_
  rw [HD3.out]
  rw [HR0.out]
  rintro e w4 ⟨rfl, hb4⟩
  have B4 := Lib.hid (B3.out.trans (hb4.mono B3.out.size))
  have t3_4 := Lib.hid (S3.out.below hb4)
  have hz4 : (w3).heap.size ≤ w4.heap.size := hb4.size
  clear hb4 
  -- x1 := toLockingS(aPlan)
  go_wp2_with fail
  refine (toLockingS_any _ l1 _ (R1.out.below (BW.out.trans (B4.out.mono hs0)))).mono ?_
  rintro e w5 ⟨u5, rs5, rfl, o5, hd5, hb5⟩
  have hq5 : (rs5.length : Int) + bulkLock rs5 ≤ 1048576 := by
    have e := congrArg List.length hd5
    rw [List.length_map, List.length_map] at e
    rw [bulkLock_same hd5, e]; omega
  have HD5 := Lib.hid hd5
  have bq5 := bulkLock_pos rs5
  obtain ⟨⟨D5, k5, rfl⟩, s5, fr5, frs5, rg5, rgs5, pw5, apv5, shp5⟩ := o5.parts (by omega)
  have S5 := Lib.hid s5
  have FR5 := Lib.hid fr5
  have FRS5 := Lib.hid frs5
  have RG5 := Lib.hid rg5
  have RGS5 := Lib.hid rgs5
  have PW5 := Lib.hid pw5
  have APV5 := Lib.hid apv5
  have SHP5 := Lib.hid shp5
  clear s5 fr5 frs5 rg5 rgs5 pw5 apv5 shp5
  have B5 := Lib.hid (B4.out.trans (hb5.mono B4.out.size))
  have hz5 : (w4).heap.size ≤ w5.heap.size := hb5.size
  clear hb5 o5 hd5
  -- g0 := impl.NextTurn(toChamber(aK), x1, aUp, aReady)
  have y0_0 : (w5).cell? ⟨w.heap.size, 0, none⟩ = some (.int .i64 d0.length) := cell_onV (ABX0.out.1) B5.out
  have y0_1 : (w5).cell? ⟨w.heap.size, 1, none⟩ = some (.int .i64 d0.lanes) := cell_onV (ABX0.out.2.1) B5.out
  have y0_2 : (w5).cell? ⟨w.heap.size, 2, none⟩ = some (.int .i64 d0.minutes) := cell_onV (ABX0.out.2.2) B5.out
  go_wp2_with fail
  refine (toChamber_any d0.length d0.lanes d0.minutes _).mono ?_
  rintro e w6 ⟨rfl, hb6⟩
  have B6 := Lib.hid (B5.out.trans (hb6.mono B5.out.size))
  have x1_6 := Lib.hid (S5.out.below hb6)
  have x1F_6 := Lib.hid (FR5.out.below hb6)
  have x1FS_6 := Lib.hid (FRS5.out.below hb6)
  have hz6 : (w5).heap.size ≤ w6.heap.size := hb6.size
  clear hb6 y0_0 y0_1 y0_2
  go_wp2_with fail
  refine (implNextTurn d0 _ rs5 a2 a3 _ x1_6.out ).mono ?_
  rw [HD5.out]
  rw [HR0.out]
  rintro e w7 ⟨rfl, hb7⟩
  have B7 := Lib.hid (B6.out.trans (hb7.mono B6.out.size))
  have x1_7 := Lib.hid (x1_6.out.below hb7)
  have x1F_7 := Lib.hid (x1F_6.out.below hb7)
  have x1FS_7 := Lib.hid (x1FS_6.out.below hb7)
  have hz7 : (w6).heap.size ≤ w7.heap.size := hb7.size
  clear hb7 
  -- if g0 != w0 {
  -- if !eqLockingS(x1, toLockingS(aPlan)) {
  go_wp2_with fail
  refine (toLockingS_any _ l1 _ (R1.out.below (BW.out.trans (B7.out.mono hs0)))).mono ?_
  rintro e w8 ⟨u8, rs8, rfl, o8, hd8, hb8⟩
  have hq8 : (rs8.length : Int) + bulkLock rs8 ≤ 1048576 := by
    have e := congrArg List.length hd8
    rw [List.length_map, List.length_map] at e
    rw [bulkLock_same hd8, e]; omega
  have HD8 := Lib.hid hd8
  have bq8 := bulkLock_pos rs8
  obtain ⟨⟨D8, k8, rfl⟩, s8, fr8, frs8, rg8, rgs8, pw8, apv8, shp8⟩ := o8.parts (by omega)
  have S8 := Lib.hid s8
  have FR8 := Lib.hid fr8
  have FRS8 := Lib.hid frs8
  have RG8 := Lib.hid rg8
  have RGS8 := Lib.hid rgs8
  have PW8 := Lib.hid pw8
  have APV8 := Lib.hid apv8
  have SHP8 := Lib.hid shp8
  clear s8 fr8 frs8 rg8 rgs8 pw8 apv8 shp8
  have B8 := Lib.hid (B7.out.trans (hb8.mono B7.out.size))
  have x1_8 := Lib.hid (x1_7.out.below hb8)
  have x1F_8 := Lib.hid (x1F_7.out.below hb8)
  have x1FS_8 := Lib.hid (x1FS_7.out.below hb8)
  have hz8 : (w7).heap.size ≤ w8.heap.size := hb8.size
  clear hb8 o8 hd8
  go_wp2_with fail
  refine (eqLockingS_same _ _ rs5 rs8 _ x1_8.out S8.out (HD5.out.trans HD8.out.symm)).mono ?_
  rintro e w9 ⟨rfl, hb9⟩
  have B9 := Lib.hid (B8.out.trans (hb9.mono B8.out.size))
  have x1_9 := Lib.hid (x1_8.out.below hb9)
  have x1F_9 := Lib.hid (x1F_8.out.below hb9)
  have x1FS_9 := Lib.hid (x1FS_8.out.below hb9)
  have hz9 : (w8).heap.size ≤ w9.heap.size := hb9.size
  clear hb9
  -- return true
  go_wp2
  go_ret
  exact ⟨rfl, BW.out.trans (B9.out.mono hs0)⟩

set_option maxRecDepth 100000 in
theorem lifted (os : Os) (started : os.Started) (H : Type) (enc : TypeId × Value → H) :
    ReturnsInHanded {} Try.checked os 7 .any (Rows.fnExactNextTurnSpec.pre6 enc Try.prog Try.f7 Rows.fnExactNextTurnRow.domain false) (Rows.fnExactNextTurnSpec.post enc Try.prog Try.f7 false true false false) := by
  refine returnsInHanded_of_change (C := Try.checked) own started (by kernel_rfl) Try.func7
    (ChangeSpec.witness6 (enc := enc) (C := Try.checked) false ⟨#[], #[.agg #[.int .i64 0, .int .i64 0, .int .i64 0], .slice none 0 0, .bool false, .int .i64 0], []⟩ 8 (by kernel_rfl) (by kernel_rfl) (by kernel_rfl) (by kernel_rfl)) ?_
  intro W base args ds gs before hval0 hW _ _
  have hval : ∀ (j : Nat) t v, Try.f7.params[j]? = some t → args[j]? = some v → Value.okWide Try.prog W .any base t v := hval0
  have hW' := hW
  obtain ⟨p, q, hA0, hV, rfl, _, _⟩ := hW
  have hA : DataW.TrodAll enc Try.prog W 0 (fun _ => true) true Try.f7.params.toList args.toList ds p := hA0
  rw [Try.params7] at hA hval
  obtain ⟨v0, vs0, d0, ds0, p0, q0, hargs, rfl, rfl, h0, r0⟩ := trodAll_cons hA
  obtain ⟨v1, vs1, d1, ds1, p1, q1, rfl, rfl, rfl, h1, r1⟩ := trodAll_cons r0
  obtain ⟨v2, vs2, d2, ds2, p2, q2, rfl, rfl, rfl, h2, r2⟩ := trodAll_cons r1
  obtain ⟨v3, vs3, d3, ds3, p3, q3, rfl, rfl, rfl, h3, r3⟩ := trodAll_cons r2
  obtain ⟨rfl, rfl, rfl⟩ := trodAll_nil r3
  obtain rfl : args = #[v0, v1, v2, v3] := by cases args; simp_all
  obtain ⟨d0', rfl, g0⟩ := open_chamber_arg (hval 0 43 v0 rfl rfl) h0
  obtain ⟨A1, c1, l1, rfl, g1, _⟩ := open_lockings_arg (hval 1 45 v1 rfl rfl) h1
  obtain ⟨a2, rfl, rfl, rfl⟩ := open_bool Try.underlying4 (hval 2 4 v2 rfl rfl) h2
  obtain ⟨a3, rfl, rfl, rfl, g3⟩ := open_int Try.underlying3 (hval 3 3 v3 rfl rfl) h3
  refine (law d0' A1 c1 l1 a2 a3 W g0 g1 g3).mono fun e W' ⟨he, hb⟩ => ⟨_, he, ?_⟩
  exact law_post laidOut (by kernel_rfl) rfl (by kernel_rfl) Try.underlying4 rfl rfl rfl hW' hb

theorem holds : Rows.FnExactNextTurnSaid :=
  OpenClaim.holds_of_wide 7 Try.f7 rfl rfl rfl rfl rfl rfl rfl ⟨rfl, rfl, rfl, rfl, rfl⟩ rfl rfl rfl rfl rfl (by kernel_rfl) Try.func7 (by kernel_rfl)
    (of_decide_eq_true (by kernel_rfl)) (by unfold Func.isWrapper; first | (rw [if_pos (by decide +kernel)]; kernel_rfl) | (rw [if_neg (by decide +kernel)]; exact ⟨rfl, rfl⟩))
    (fun os started H enc _ => lifted os started H enc)

end Go.Proofs.Ytlddampjbmklkaa.exactNextTurn
