
/- The exact law of LockPlanOk holds for all arguments: impl.LockPlanOk answers as its model, and the arguments read as before. No condition. -/
import Derived.Test.YtlddampjbmklkaaRows
import Derived.Test.YtlddampjbmklkaaBl0
import Derived.Test.YtlddampjbmklkaaBl18
import Derived.Test.YtlddampjbmklkaaBl21
import Derived.Test.YtlddampjbmklkaaBl19
import Derived.Test.YtlddampjbmklkaaBl5
import Derived.Test.YtlddampjbmklkaaBl4
import Derived.Test.YtlddampjbmklkaaBl6
import Derived.Deep.RegionHeld3
import Derived.Deep.DeepCutAuto
namespace Go.Proofs.Ytlddampjbmklkaa.exactLockPlanOk
open Go.ChangeShapes Go.WideShapes Go.ChangeAt Go.RowKit
set_option maxRecDepth 100000
theorem own : ownKnob Try.prog.godebug = none := by kernel_rfl
theorem laidOut : laidOutB Try.prog = true := by kernel_rfl
set_option maxHeartbeats 16000000 in
theorem law (d0 : ChamberD) (A1 : Option Addr) (c1 : Nat) (l1 : List ShipD) (A2 : Option Addr) (c2 : Nat) (l2 : List LockR) (w : World) (_ : d0.wf) (hin1 : l1.length ≤ maxLen ∧ (l1.length ≤ 1000000000 → SlShip w (.slice A1 l1.length c1) l1) ∧ ∀ x ∈ l1, ShipD.wf x) (hin2 : LocksIn w A2 c2 l2) :
    Calls Try.prog 4 #[.agg #[.int .i64 d0.length, .int .i64 d0.lanes, .int .i64 d0.minutes], .slice A1 l1.length c1, .slice A2 l2.length c2] w fun e w' => e = .returned (.bool true) ∧ Below w.heap.size w w' := by
  obtain ⟨m1, s1, f1⟩ := hin1
  unfold maxLen at m1
  have SS1 := Lib.hid s1
  have FF1 := Lib.hid f1
  clear s1 f1
  have m2 := hin2.1
  have SS2 := Lib.hid hin2
  have bp2 := bulkLock_pos l2
  have HB0 : Below w.heap.size w (w.alloc (.cells #[.int .i64 d0.length, .int .i64 d0.lanes, .int .i64 d0.minutes] 43)) := by
    repeat (first | exact Below.refl _ _ | refine Below.alloc ?_ (by simp <;> omega) _)
  have BW := Lib.hid HB0
  clear HB0
  go_enter Try.func4, Try.ntmps4
  have B0 := Lib.hid (Below.refl ((w.alloc (.cells #[.int .i64 d0.length, .int .i64 d0.lanes, .int .i64 d0.minutes] 43))).heap.size (w.alloc (.cells #[.int .i64 d0.length, .int .i64 d0.lanes, .int .i64 d0.minutes] 43)))
  have hs0 : w.heap.size ≤ ((w.alloc (.cells #[.int .i64 d0.length, .int .i64 d0.lanes, .int .i64 d0.minutes] 43))).heap.size := BW.out.size
  have ABX0 := Lib.hid (show ((w.alloc (.cells #[.int .i64 d0.length, .int .i64 d0.lanes, .int .i64 d0.minutes] 43))).cell? ⟨w.heap.size, 0, none⟩ = some (.int .i64 d0.length) ∧ ((w.alloc (.cells #[.int .i64 d0.length, .int .i64 d0.lanes, .int .i64 d0.minutes] 43))).cell? ⟨w.heap.size, 1, none⟩ = some (.int .i64 d0.lanes) ∧ ((w.alloc (.cells #[.int .i64 d0.length, .int .i64 d0.lanes, .int .i64 d0.minutes] 43))).cell? ⟨w.heap.size, 2, none⟩ = some (.int .i64 d0.minutes) from by
    have hBk0 : Blk (w.alloc (.cells #[.int .i64 d0.length, .int .i64 d0.lanes, .int .i64 d0.minutes] 43)) (w.heap.size) #[.int .i64 d0.length, .int .i64 d0.lanes, .int .i64 d0.minutes] 43 := Blk.newAt (w := w) (by first | rfl | simp) _ _
    have hBk : Blk (w.alloc (.cells #[.int .i64 d0.length, .int .i64 d0.lanes, .int .i64 d0.minutes] 43)) (w.heap.size) #[.int .i64 d0.length, .int .i64 d0.lanes, .int .i64 d0.minutes] 43 := hBk0.below (by repeat (first | exact Below.refl _ _ | refine Below.alloc ?_ (by simp) _))
    exact ⟨hBk.cell 0, hBk.cell 1, hBk.cell 2⟩)
  obtain ⟨r0, hr0⟩ : ∃ r0, (lockPlanB d0 l1 (l2.map LockR.d)) = r0 := ⟨_, rfl⟩
  have HR0 := Lib.hid hr0
  clear hr0
  -- left := 1 << 20
  -- left = szShipS(aFleet, left)
  have hl1 : 0 ≤ (1048576 : Int) := by omega
  have hll1 : (1048576 : Int) ≤ 1048576 := by omega
  go_wp2_with fail
  refine (szShipS_any A1 l1 c1 _ (by omega) (fun h => (SS1.out h).below (BW.out.trans (B0.out.mono hs0))) (fun x hx => wfszShip (FF1.out x hx)) (1048576) hl1 hll1).mono ?_
  rintro e w1 ⟨rfl, hb1⟩
  have B1 := Lib.hid (B0.out.trans (hb1.mono B0.out.size))
  have hz1 : ((w.alloc (.cells #[.int .i64 d0.length, .int .i64 d0.lanes, .int .i64 d0.minutes] 43))).heap.size ≤ w1.heap.size := hb1.size
  clear hb1 
  have ps1 := bulkShip_pos l1
  by_cases neg1 : (1048576 : Int) < ((l1.length : Int) + bulkShip l1)
  · rw [leftOf_no neg1]
    go_wp2
    go_ret
    exact ⟨rfl, BW.out.trans (B1.out.mono hs0)⟩
  rw [leftOf_yes neg1]
  have ne1 : ¬ (1048576 - ((l1.length : Int) + bulkShip l1) : Int) < 0 := by omega
  have R1 := Lib.hid (SS1.out (by omega))
  clear SS1
  -- left = szLockingS(aPlan, left)
  have hl2 : 0 ≤ (1048576 - ((l1.length : Int) + bulkShip l1) : Int) := by omega
  have hll2 : (1048576 - ((l1.length : Int) + bulkShip l1) : Int) ≤ 1048576 := by omega
  go_wp2_with fail
  refine (szLockingS_any A2 l2 c2 _ (SS2.out.below (BW.out.trans (B1.out.mono hs0))) (1048576 - ((l1.length : Int) + bulkShip l1)) hl2 hll2).mono ?_
  rintro e w2 ⟨rfl, hb2⟩
  have B2 := Lib.hid (B1.out.trans (hb2.mono B1.out.size))
  have hz2 : (w1).heap.size ≤ w2.heap.size := hb2.size
  clear hb2 
  have ps2 := bulkLock_pos l2
  by_cases neg2 : (1048576 - ((l1.length : Int) + bulkShip l1) : Int) < ((l2.length : Int) + bulkLock l2)
  · rw [leftOf_no neg2]
    go_wp2
    go_ret
    exact ⟨rfl, BW.out.trans (B2.out.mono hs0)⟩
  rw [leftOf_yes neg2]
  have ne2 : ¬ (1048576 - ((l1.length : Int) + bulkShip l1) - ((l2.length : Int) + bulkLock l2) : Int) < 0 := by omega
  have R2 := Lib.hid (SS2.out.rd (by omega))
  clear SS2
  -- w0 := spec.LockPlanOk(toChamber(aK), toShipS(aFleet), toLockingS(aPlan))
  have y0_0 : (w2).cell? ⟨w.heap.size, 0, none⟩ = some (.int .i64 d0.length) := cell_onV (ABX0.out.1) B2.out
  have y0_1 : (w2).cell? ⟨w.heap.size, 1, none⟩ = some (.int .i64 d0.lanes) := cell_onV (ABX0.out.2.1) B2.out
  have y0_2 : (w2).cell? ⟨w.heap.size, 2, none⟩ = some (.int .i64 d0.minutes) := cell_onV (ABX0.out.2.2) B2.out
  go_wp2_with fail
  refine (toChamber_any d0.length d0.lanes d0.minutes _).mono ?_
  rintro e w3 ⟨rfl, hb3⟩
  have B3 := Lib.hid (B2.out.trans (hb3.mono B2.out.size))
  have hz3 : (w2).heap.size ≤ w3.heap.size := hb3.size
  clear hb3 y0_0 y0_1 y0_2
  go_wp2_with fail
  refine (toShipS_any _ l1 _ (R1.out.below (BW.out.trans (B3.out.mono hs0)))).mono ?_
  rintro e w4 ⟨u4, rfl, o4, hb4⟩
  have S4 := Lib.hid (OwnShip.sl o4 (by omega))
  have RG4 := Lib.hid (own_range o4)
  have FR4 := Lib.hid (own_freeV o4)
  obtain ⟨D4, k4, rfl⟩ := own_form o4
  have B4 := Lib.hid (B3.out.trans (hb4.mono B3.out.size))
  have hz4 : (w3).heap.size ≤ w4.heap.size := hb4.size
  clear hb4 o4
  go_wp2_with fail
  refine (toLockingS_any _ l2 _ (R2.out.below (BW.out.trans (B4.out.mono hs0)))).mono ?_
  rintro e w5 ⟨u5, rs5, rfl, o5, hd5, hb5⟩
  have hq5 : (rs5.length : Int) + bulkLock rs5 ≤ 1048576 := by
    have e := congrArg List.length hd5
    rw [List.length_map, List.length_map] at e
    rw [bulkLock_same hd5, e]; omega
  have HD5 := Lib.hid hd5
  have bq5 := bulkLock_pos rs5
  obtain ⟨⟨D5, k5, rfl⟩, s5, fr5, frs5, rg5, rgs5, pw5, apv5, shp5⟩ := o5.parts (by omega)
  have S5 := Lib.hid s5
  have FR5 := Lib.hid fr5
  have FRS5 := Lib.hid frs5
  have RG5 := Lib.hid rg5
  have RGS5 := Lib.hid rgs5
  have PW5 := Lib.hid pw5
  have APV5 := Lib.hid apv5
  have SHP5 := Lib.hid shp5
  clear s5 fr5 frs5 rg5 rgs5 pw5 apv5 shp5
  have B5 := Lib.hid (B4.out.trans (hb5.mono B4.out.size))
  have t4_5 := Lib.hid (S4.out.below hb5)
  have hz5 : (w4).heap.size ≤ w5.heap.size := hb5.size
  clear hb5 o5 hd5
  go_wp2_with fail
  refine (specLockPlanOk d0 _ l1 _ rs5 _ t4_5.out S5.out FF1.out (by omega)).mono ?_
  rw [HD5.out]
  rw [HR0.out]
  rintro e w6 ⟨rfl, hb6⟩
  have B6 := Lib.hid (B5.out.trans (hb6.mono B5.out.size))
  have t4_6 := Lib.hid (t4_5.out.below hb6)
  have t5_6 := Lib.hid (S5.out.below hb6)
  have hz6 : (w5).heap.size ≤ w6.heap.size := hb6.size
  clear hb6 
  -- x1 := toShipS(aFleet)
  go_wp2_with fail
  refine (toShipS_any _ l1 _ (R1.out.below (BW.out.trans (B6.out.mono hs0)))).mono ?_
  rintro e w7 ⟨u7, rfl, o7, hb7⟩
  have S7 := Lib.hid (OwnShip.sl o7 (by omega))
  have RG7 := Lib.hid (own_range o7)
  have FR7 := Lib.hid (own_freeV o7)
  obtain ⟨D7, k7, rfl⟩ := own_form o7
  have B7 := Lib.hid (B6.out.trans (hb7.mono B6.out.size))
  have hz7 : (w6).heap.size ≤ w7.heap.size := hb7.size
  clear hb7 o7
  -- x2 := toLockingS(aPlan)
  go_wp2_with fail
  refine (toLockingS_any _ l2 _ (R2.out.below (BW.out.trans (B7.out.mono hs0)))).mono ?_
  rintro e w8 ⟨u8, rs8, rfl, o8, hd8, hb8⟩
  have hq8 : (rs8.length : Int) + bulkLock rs8 ≤ 1048576 := by
    have e := congrArg List.length hd8
    rw [List.length_map, List.length_map] at e
    rw [bulkLock_same hd8, e]; omega
  have HD8 := Lib.hid hd8
  have bq8 := bulkLock_pos rs8
  obtain ⟨⟨D8, k8, rfl⟩, s8, fr8, frs8, rg8, rgs8, pw8, apv8, shp8⟩ := o8.parts (by omega)
  have S8 := Lib.hid s8
  have FR8 := Lib.hid fr8
  have FRS8 := Lib.hid frs8
  have RG8 := Lib.hid rg8
  have RGS8 := Lib.hid rgs8
  have PW8 := Lib.hid pw8
  have APV8 := Lib.hid apv8
  have SHP8 := Lib.hid shp8
  clear s8 fr8 frs8 rg8 rgs8 pw8 apv8 shp8
  have B8 := Lib.hid (B7.out.trans (hb8.mono B7.out.size))
  have x1_8 := Lib.hid (S7.out.below hb8)
  have x1F_8 := Lib.hid (FR7.out.below hb8)
  have hz8 : (w7).heap.size ≤ w8.heap.size := hb8.size
  clear hb8 o8 hd8
  -- g0 := impl.LockPlanOk(toChamber(aK), x1, x2)
  have y0_0 : (w8).cell? ⟨w.heap.size, 0, none⟩ = some (.int .i64 d0.length) := cell_onV (ABX0.out.1) B8.out
  have y0_1 : (w8).cell? ⟨w.heap.size, 1, none⟩ = some (.int .i64 d0.lanes) := cell_onV (ABX0.out.2.1) B8.out
  have y0_2 : (w8).cell? ⟨w.heap.size, 2, none⟩ = some (.int .i64 d0.minutes) := cell_onV (ABX0.out.2.2) B8.out
  go_wp2_with fail
  refine (toChamber_any d0.length d0.lanes d0.minutes _).mono ?_
  rintro e w9 ⟨rfl, hb9⟩
  have B9 := Lib.hid (B8.out.trans (hb9.mono B8.out.size))
  have x1_9 := Lib.hid (x1_8.out.below hb9)
  have x1F_9 := Lib.hid (x1F_8.out.below hb9)
  have x2_9 := Lib.hid (S8.out.below hb9)
  have x2F_9 := Lib.hid (FR8.out.below hb9)
  have x2FS_9 := Lib.hid (FRS8.out.below hb9)
  have hz9 : (w8).heap.size ≤ w9.heap.size := hb9.size
  clear hb9 y0_0 y0_1 y0_2
  go_wp2_with fail
  refine (implLockPlanOk d0 _ l1 _ rs8 _ x1_9.out x2_9.out FF1.out (by omega)).mono ?_
  rw [HD8.out]
  rw [HR0.out]
  rintro e w10 ⟨rfl, hb10⟩
  have B10 := Lib.hid (B9.out.trans (hb10.mono B9.out.size))
  have x1_10 := Lib.hid (x1_9.out.below hb10)
  have x1F_10 := Lib.hid (x1F_9.out.below hb10)
  have x2_10 := Lib.hid (x2_9.out.below hb10)
  have x2F_10 := Lib.hid (x2F_9.out.below hb10)
  have x2FS_10 := Lib.hid (x2FS_9.out.below hb10)
  have hz10 : (w9).heap.size ≤ w10.heap.size := hb10.size
  clear hb10 
  -- if g0 != w0 {
  -- if !eqShipS(x1, toShipS(aFleet)) {
  go_wp2_with fail
  refine (toShipS_any _ l1 _ (R1.out.below (BW.out.trans (B10.out.mono hs0)))).mono ?_
  rintro e w11 ⟨u11, rfl, o11, hb11⟩
  have S11 := Lib.hid (OwnShip.sl o11 (by omega))
  have RG11 := Lib.hid (own_range o11)
  have FR11 := Lib.hid (own_freeV o11)
  obtain ⟨D11, k11, rfl⟩ := own_form o11
  have B11 := Lib.hid (B10.out.trans (hb11.mono B10.out.size))
  have x1_11 := Lib.hid (x1_10.out.below hb11)
  have x1F_11 := Lib.hid (x1F_10.out.below hb11)
  have x2_11 := Lib.hid (x2_10.out.below hb11)
  have x2F_11 := Lib.hid (x2F_10.out.below hb11)
  have x2FS_11 := Lib.hid (x2FS_10.out.below hb11)
  have hz11 : (w10).heap.size ≤ w11.heap.size := hb11.size
  clear hb11 o11
  go_wp2_with fail
  refine (eqShipS_same _ _ l1 _ x1_11.out S11.out).mono ?_
  rintro e w12 ⟨rfl, hb12⟩
  have B12 := Lib.hid (B11.out.trans (hb12.mono B11.out.size))
  have x1_12 := Lib.hid (x1_11.out.below hb12)
  have x1F_12 := Lib.hid (x1F_11.out.below hb12)
  have x2_12 := Lib.hid (x2_11.out.below hb12)
  have x2F_12 := Lib.hid (x2F_11.out.below hb12)
  have x2FS_12 := Lib.hid (x2FS_11.out.below hb12)
  have hz12 : (w11).heap.size ≤ w12.heap.size := hb12.size
  clear hb12
  -- if !eqLockingS(x2, toLockingS(aPlan)) {
  go_wp2_with fail
  refine (toLockingS_any _ l2 _ (R2.out.below (BW.out.trans (B12.out.mono hs0)))).mono ?_
  rintro e w13 ⟨u13, rs13, rfl, o13, hd13, hb13⟩
  have hq13 : (rs13.length : Int) + bulkLock rs13 ≤ 1048576 := by
    have e := congrArg List.length hd13
    rw [List.length_map, List.length_map] at e
    rw [bulkLock_same hd13, e]; omega
  have HD13 := Lib.hid hd13
  have bq13 := bulkLock_pos rs13
  obtain ⟨⟨D13, k13, rfl⟩, s13, fr13, frs13, rg13, rgs13, pw13, apv13, shp13⟩ := o13.parts (by omega)
  have S13 := Lib.hid s13
  have FR13 := Lib.hid fr13
  have FRS13 := Lib.hid frs13
  have RG13 := Lib.hid rg13
  have RGS13 := Lib.hid rgs13
  have PW13 := Lib.hid pw13
  have APV13 := Lib.hid apv13
  have SHP13 := Lib.hid shp13
  clear s13 fr13 frs13 rg13 rgs13 pw13 apv13 shp13
  have B13 := Lib.hid (B12.out.trans (hb13.mono B12.out.size))
  have x1_13 := Lib.hid (x1_12.out.below hb13)
  have x1F_13 := Lib.hid (x1F_12.out.below hb13)
  have x2_13 := Lib.hid (x2_12.out.below hb13)
  have x2F_13 := Lib.hid (x2F_12.out.below hb13)
  have x2FS_13 := Lib.hid (x2FS_12.out.below hb13)
  have hz13 : (w12).heap.size ≤ w13.heap.size := hb13.size
  clear hb13 o13 hd13
  go_wp2_with fail
  refine (eqLockingS_same _ _ rs8 rs13 _ x2_13.out S13.out (HD8.out.trans HD13.out.symm)).mono ?_
  rintro e w14 ⟨rfl, hb14⟩
  have B14 := Lib.hid (B13.out.trans (hb14.mono B13.out.size))
  have x1_14 := Lib.hid (x1_13.out.below hb14)
  have x1F_14 := Lib.hid (x1F_13.out.below hb14)
  have x2_14 := Lib.hid (x2_13.out.below hb14)
  have x2F_14 := Lib.hid (x2F_13.out.below hb14)
  have x2FS_14 := Lib.hid (x2FS_13.out.below hb14)
  have hz14 : (w13).heap.size ≤ w14.heap.size := hb14.size
  clear hb14
  -- return true
  go_wp2
  go_ret
  exact ⟨rfl, BW.out.trans (B14.out.mono hs0)⟩
set_option maxRecDepth 100000 in
theorem lifted (os : Os) (started : os.Started) (H : Type) (enc : TypeId × Value → H) :
    ReturnsInHanded {} Try.checked os 4 .any (Rows.fnExactLockPlanOkSpec.pre6 enc Try.prog Try.f4 Rows.fnExactLockPlanOkRow.domain false) (Rows.fnExactLockPlanOkSpec.post enc Try.prog Try.f4 false true false false) := by
  refine returnsInHanded_of_change (C := Try.checked) own started (by kernel_rfl) Try.func4
    (ChangeSpec.witness6 (enc := enc) (C := Try.checked) false ⟨#[], #[.agg #[.int .i64 0, .int .i64 0, .int .i64 0], .slice none 0 0, .slice none 0 0], []⟩ 8 (by kernel_rfl) (by kernel_rfl) (by kernel_rfl) (by kernel_rfl)) ?_
  intro W base args ds gs before hval0 hW _ _
  have hval : ∀ (j : Nat) t v, Try.f4.params[j]? = some t → args[j]? = some v → Value.okWide Try.prog W .any base t v := hval0
  have hW' := hW
  obtain ⟨p, q, hA0, hV, rfl, _, _⟩ := hW
  have hA : DataW.TrodAll enc Try.prog W 0 (fun _ => true) true Try.f4.params.toList args.toList ds p := hA0
  rw [Try.params4] at hA hval
  obtain ⟨v0, vs0, d0, ds0, p0, q0, hargs, rfl, rfl, h0, r0⟩ := trodAll_cons hA
  obtain ⟨v1, vs1, d1, ds1, p1, q1, rfl, rfl, rfl, h1, r1⟩ := trodAll_cons r0
  obtain ⟨v2, vs2, d2, ds2, p2, q2, rfl, rfl, rfl, h2, r2⟩ := trodAll_cons r1
  obtain ⟨rfl, rfl, rfl⟩ := trodAll_nil r2
  obtain rfl : args = #[v0, v1, v2] := by cases args; simp_all
  obtain ⟨d0', rfl, g0⟩ := open_chamber_arg (hval 0 43 v0 rfl rfl) h0
  obtain ⟨A1, c1, l1, rfl, g1⟩ := open_ships_arg (hval 1 44 v1 rfl rfl) h1
  obtain ⟨A2, c2, l2, rfl, g2, _⟩ := open_lockings_arg (hval 2 45 v2 rfl rfl) h2
  refine (law d0' A1 c1 l1 A2 c2 l2 W g0 g1 g2).mono fun e W' ⟨he, hb⟩ => ⟨_, he, ?_⟩
  exact law_post laidOut (by kernel_rfl) rfl (by kernel_rfl) Try.underlying4 rfl rfl rfl hW' hb
theorem holds : Rows.FnExactLockPlanOkSaid :=
  OpenClaim.holds_of_wide 4 Try.f4 rfl rfl rfl rfl rfl rfl rfl ⟨rfl, rfl, rfl, rfl, rfl⟩ rfl rfl rfl rfl rfl (by kernel_rfl) Try.func4 (by kernel_rfl)
    (of_decide_eq_true (by kernel_rfl)) (by unfold Func.isWrapper; first | (rw [if_pos (by decide +kernel)]; kernel_rfl) | (rw [if_neg (by decide +kernel)]; exact ⟨rfl, rfl⟩))
    (fun os started H enc _ => lifted os started H enc)
end Go.Proofs.Ytlddampjbmklkaa.exactLockPlanOk
