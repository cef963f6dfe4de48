
/- The exact law of AppendLocking holds for all arguments: impl.AppendLocking answers as its model, its answer owns its memory, and the arguments read as before. No condition. -/
import Derived.Test.YtlddampjbmklkaaRows
import Derived.Test.YtlddampjbmklkaaBl0
import Derived.Test.YtlddampjbmklkaaBl20
import Derived.Test.YtlddampjbmklkaaBl23
import Derived.Test.YtlddampjbmklkaaBl19
import Derived.Test.YtlddampjbmklkaaBl5
import Derived.Test.YtlddampjbmklkaaBl2
import Derived.Test.YtlddampjbmklkaaBl4
import Derived.Test.YtlddampjbmklkaaBl6
import Derived.Deep.RegionHeld3
import Derived.Deep.DeepCutAuto
namespace Go.Proofs.Ytlddampjbmklkaa.exactAppendLocking
open Go.ChangeShapes Go.WideShapes Go.ChangeAt Go.RowKit
set_option maxRecDepth 100000
theorem own : ownKnob Try.prog.godebug = none := by kernel_rfl
theorem laidOut : laidOutB Try.prog = true := by kernel_rfl
set_option maxHeartbeats 16000000 in
theorem law (d0 : ChamberD) (A1 : Option Addr) (c1 : Nat) (l1 : List ShipD) (A2 : Option Addr) (c2 : Nat) (l2 : List LockR) (a3 : Bool) (a4 : Int) (A5 : Option Addr) (c5 : Nat) (l5 : List IntD) (w : World) (_ : d0.wf) (hin1 : l1.length ≤ maxLen ∧ (l1.length ≤ 1000000000 → SlShip w (.slice A1 l1.length c1) l1) ∧ ∀ x ∈ l1, ShipD.wf x) (hin2 : LocksIn w A2 c2 l2) (_ : (Lit.int .i64 a4).wf = true) (hin5 : l5.length ≤ maxLen ∧ (l5.length ≤ 1000000000 → SlInt w (.slice A5 l5.length c5) l5) ∧ ∀ x ∈ l5, IntD.wf x) :
    Calls Try.prog 8 #[.agg #[.int .i64 d0.length, .int .i64 d0.lanes, .int .i64 d0.minutes], .slice A1 l1.length c1, .slice A2 l2.length c2, .bool a3, .int .i64 a4, .slice A5 l5.length c5] w fun e w' => e = .returned (.bool true) ∧ Below w.heap.size w w' := by
  obtain ⟨m1, s1, f1⟩ := hin1
  unfold maxLen at m1
  have SS1 := Lib.hid s1
  have FF1 := Lib.hid f1
  clear s1 f1
  have m2 := hin2.1
  have SS2 := Lib.hid hin2
  have bp2 := bulkLock_pos l2
  obtain ⟨m5, s5, f5⟩ := hin5
  unfold maxLen at m5
  have SS5 := Lib.hid s5
  have FF5 := Lib.hid f5
  clear s5 f5
  have HB0 : Below w.heap.size w (w.alloc (.cells #[.int .i64 d0.length, .int .i64 d0.lanes, .int .i64 d0.minutes] 43)) := by
    repeat (first | exact Below.refl _ _ | refine Below.alloc ?_ (by simp <;> omega) _)
  have BW := Lib.hid HB0
  clear HB0
  go_enter Try.func8, Try.ntmps8
  have B0 := Lib.hid (Below.refl ((w.alloc (.cells #[.int .i64 d0.length, .int .i64 d0.lanes, .int .i64 d0.minutes] 43))).heap.size (w.alloc (.cells #[.int .i64 d0.length, .int .i64 d0.lanes, .int .i64 d0.minutes] 43)))
  have hs0 : w.heap.size ≤ ((w.alloc (.cells #[.int .i64 d0.length, .int .i64 d0.lanes, .int .i64 d0.minutes] 43))).heap.size := BW.out.size
  have ABX0 := Lib.hid (show ((w.alloc (.cells #[.int .i64 d0.length, .int .i64 d0.lanes, .int .i64 d0.minutes] 43))).cell? ⟨w.heap.size, 0, none⟩ = some (.int .i64 d0.length) ∧ ((w.alloc (.cells #[.int .i64 d0.length, .int .i64 d0.lanes, .int .i64 d0.minutes] 43))).cell? ⟨w.heap.size, 1, none⟩ = some (.int .i64 d0.lanes) ∧ ((w.alloc (.cells #[.int .i64 d0.length, .int .i64 d0.lanes, .int .i64 d0.minutes] 43))).cell? ⟨w.heap.size, 2, none⟩ = some (.int .i64 d0.minutes) from by
    have hBk0 : Blk (w.alloc (.cells #[.int .i64 d0.length, .int .i64 d0.lanes, .int .i64 d0.minutes] 43)) (w.heap.size) #[.int .i64 d0.length, .int .i64 d0.lanes, .int .i64 d0.minutes] 43 := Blk.newAt (w := w) (by first | rfl | simp) _ _
    have hBk : Blk (w.alloc (.cells #[.int .i64 d0.length, .int .i64 d0.lanes, .int .i64 d0.minutes] 43)) (w.heap.size) #[.int .i64 d0.length, .int .i64 d0.lanes, .int .i64 d0.minutes] 43 := hBk0.below (by repeat (first | exact Below.refl _ _ | refine Below.alloc ?_ (by simp) _))
    exact ⟨hBk.cell 0, hBk.cell 1, hBk.cell 2⟩)
  obtain ⟨r0, hr0⟩ : ∃ r0, ((appendO d0 l1 (l2.map LockR.d) a3 a4 l5).getD []) = r0 := ⟨_, rfl⟩
  have HR0 := Lib.hid hr0
  clear hr0
  obtain ⟨r1, hr1⟩ : ∃ r1, ((appendO d0 l1 (l2.map LockR.d) a3 a4 l5).isSome) = r1 := ⟨_, rfl⟩
  have HR1 := Lib.hid hr1
  clear hr1
  -- if len(aShips) > 1<<20 {
  by_cases big5 : 1048576 < l5.length
  · go_wp2
    go_ret
    exact ⟨rfl, BW.out.trans (B0.out.mono hs0)⟩
  have R5 := Lib.hid (SS5.out (by omega))
  clear SS5
  -- left := 1 << 20
  -- left = szShipS(aFleet, left)
  have hl1 : 0 ≤ (1048576 : Int) := by omega
  have hll1 : (1048576 : Int) ≤ 1048576 := by omega
  go_wp2_with fail
  refine (szShipS_any A1 l1 c1 _ (by omega) (fun h => (SS1.out h).below (BW.out.trans (B0.out.mono hs0))) (fun x hx => wfszShip (FF1.out x hx)) (1048576) hl1 hll1).mono ?_
  rintro e w1 ⟨rfl, hb1⟩
  have B1 := Lib.hid (B0.out.trans (hb1.mono B0.out.size))
  have hz1 : ((w.alloc (.cells #[.int .i64 d0.length, .int .i64 d0.lanes, .int .i64 d0.minutes] 43))).heap.size ≤ w1.heap.size := hb1.size
  clear hb1 
  have ps1 := bulkShip_pos l1
  by_cases neg1 : (1048576 : Int) < ((l1.length : Int) + bulkShip l1)
  · rw [leftOf_no neg1]
    go_wp2
    go_ret
    exact ⟨rfl, BW.out.trans (B1.out.mono hs0)⟩
  rw [leftOf_yes neg1]
  have ne1 : ¬ (1048576 - ((l1.length : Int) + bulkShip l1) : Int) < 0 := by omega
  have R1 := Lib.hid (SS1.out (by omega))
  clear SS1
  -- left = szLockingS(aPlan, left)
  have hl2 : 0 ≤ (1048576 - ((l1.length : Int) + bulkShip l1) : Int) := by omega
  have hll2 : (1048576 - ((l1.length : Int) + bulkShip l1) : Int) ≤ 1048576 := by omega
  go_wp2_with fail
  refine (szLockingS_any A2 l2 c2 _ (SS2.out.below (BW.out.trans (B1.out.mono hs0))) (1048576 - ((l1.length : Int) + bulkShip l1)) hl2 hll2).mono ?_
  rintro e w2 ⟨rfl, hb2⟩
  have B2 := Lib.hid (B1.out.trans (hb2.mono B1.out.size))
  have hz2 : (w1).heap.size ≤ w2.heap.size := hb2.size
  clear hb2 
  have ps2 := bulkLock_pos l2
  by_cases neg2 : (1048576 - ((l1.length : Int) + bulkShip l1) : Int) < ((l2.length : Int) + bulkLock l2)
  · rw [leftOf_no neg2]
    go_wp2
    go_ret
    exact ⟨rfl, BW.out.trans (B2.out.mono hs0)⟩
  rw [leftOf_yes neg2]
  have ne2 : ¬ (1048576 - ((l1.length : Int) + bulkShip l1) - ((l2.length : Int) + bulkLock l2) : Int) < 0 := by omega
  have R2 := Lib.hid (SS2.out.rd (by omega))
  clear SS2
  -- w0, w1 := spec.AppendLocking(toChamber(aK), toShipS(aFleet), toLockingS(aPlan), aUp, aReady, toIntS(aShips))
  have y0_0 : (w2).cell? ⟨w.heap.size, 0, none⟩ = some (.int .i64 d0.length) := cell_onV (ABX0.out.1) B2.out
  have y0_1 : (w2).cell? ⟨w.heap.size, 1, none⟩ = some (.int .i64 d0.lanes) := cell_onV (ABX0.out.2.1) B2.out
  have y0_2 : (w2).cell? ⟨w.heap.size, 2, none⟩ = some (.int .i64 d0.minutes) := cell_onV (ABX0.out.2.2) B2.out
  go_wp2_with fail
  refine (toChamber_any d0.length d0.lanes d0.minutes _).mono ?_
  rintro e w3 ⟨rfl, hb3⟩
  have B3 := Lib.hid (B2.out.trans (hb3.mono B2.out.size))
  have hz3 : (w2).heap.size ≤ w3.heap.size := hb3.size
  clear hb3 y0_0 y0_1 y0_2
  go_wp2_with fail
  refine (toShipS_any _ l1 _ (R1.out.below (BW.out.trans (B3.out.mono hs0)))).mono ?_
  rintro e w4 ⟨u4, rfl, o4, hb4⟩
  have S4 := Lib.hid (OwnShip.sl o4 (by omega))
  have RG4 := Lib.hid (own_range o4)
  have FR4 := Lib.hid (own_freeV o4)
  obtain ⟨D4, k4, rfl⟩ := own_form o4
  have B4 := Lib.hid (B3.out.trans (hb4.mono B3.out.size))
  have hz4 : (w3).heap.size ≤ w4.heap.size := hb4.size
  clear hb4 o4
  go_wp2_with fail
  refine (toLockingS_any _ l2 _ (R2.out.below (BW.out.trans (B4.out.mono hs0)))).mono ?_
  rintro e w5 ⟨u5, rs5, rfl, o5, hd5, hb5⟩
  have hq5 : (rs5.length : Int) + bulkLock rs5 ≤ 1048576 := by
    have e := congrArg List.length hd5
    rw [List.length_map, List.length_map] at e
    rw [bulkLock_same hd5, e]; omega
  have HD5 := Lib.hid hd5
  have bq5 := bulkLock_pos rs5
  obtain ⟨⟨D5, k5, rfl⟩, s5, fr5, frs5, rg5, rgs5, pw5, apv5, shp5⟩ := o5.parts (by omega)
  have S5 := Lib.hid s5
  have FR5 := Lib.hid fr5
  have FRS5 := Lib.hid frs5
  have RG5 := Lib.hid rg5
  have RGS5 := Lib.hid rgs5
  have PW5 := Lib.hid pw5
  have APV5 := Lib.hid apv5
  have SHP5 := Lib.hid shp5
  clear s5 fr5 frs5 rg5 rgs5 pw5 apv5 shp5
  have B5 := Lib.hid (B4.out.trans (hb5.mono B4.out.size))
  have t4_5 := Lib.hid (S4.out.below hb5)
  have hz5 : (w4).heap.size ≤ w5.heap.size := hb5.size
  clear hb5 o5 hd5
  go_wp2_with fail
  refine (toIntS_any _ l5 _ (R5.out.below (BW.out.trans (B5.out.mono hs0)))).mono ?_
  rintro e w6 ⟨u6, rfl, o6, hb6⟩
  have S6 := Lib.hid (OwnInt.sl o6 (by omega))
  have RG6 := Lib.hid (own_range o6)
  have FR6 := Lib.hid (own_freeV o6)
  obtain ⟨D6, k6, rfl⟩ := own_form o6
  have B6 := Lib.hid (B5.out.trans (hb6.mono B5.out.size))
  have t4_6 := Lib.hid (t4_5.out.below hb6)
  have t5_6 := Lib.hid (S5.out.below hb6)
  have hz6 : (w5).heap.size ≤ w6.heap.size := hb6.size
  clear hb6 o6
  have hlen : (r0.length : Int) + bulkD r0 ≤ 9000000 := by rw [← HR0.out]; exact (by have h := appendO_len d0 l1 (l2.map LockR.d) a3 a4 l5; rw [bulkD_map, List.length_map] at h; omega)
  go_wp2_with fail
  refine (specAppendLocking d0 _ l1 _ rs5 a3 a4 _ l5 _ t4_6.out t5_6.out S6.out FF1.out (by omega) (by omega)).mono ?_
  rw [HD5.out]
  intro e w7 hN
  unfold NewPlan at hN
  rw [HR1.out, HR0.out] at hN
  obtain ⟨u7, rs7, rfl, o7, hd7, hb7⟩ := hN
  have hq7 : (rs7.length : Int) + bulkLock rs7 ≤ 9000000 := by
    have e := congrArg List.length hd7
    rw [List.length_map] at e
    rw [← bulkD_map, hd7, e]; exact hlen
  have HD7 := Lib.hid hd7
  have bq7 := bulkLock_pos rs7
  obtain ⟨⟨D7, k7, rfl⟩, s7, fr7, frs7, rg7, rgs7, pw7, apv7, shp7⟩ := o7.parts (by omega)
  have S7 := Lib.hid s7
  have FR7 := Lib.hid fr7
  have FRS7 := Lib.hid frs7
  have RG7 := Lib.hid rg7
  have RGS7 := Lib.hid rgs7
  have PW7 := Lib.hid pw7
  have APV7 := Lib.hid apv7
  have SHP7 := Lib.hid shp7
  clear s7 fr7 frs7 rg7 rgs7 pw7 apv7 shp7
  have B7 := Lib.hid (B6.out.trans (hb7.mono B6.out.size))
  have t4_7 := Lib.hid (t4_6.out.below hb7)
  have t5_7 := Lib.hid (t5_6.out.below hb7)
  have t6_7 := Lib.hid (S6.out.below hb7)
  have hz7 : (w6).heap.size ≤ w7.heap.size := hb7.size
  clear hb7 o7 hd7 
  -- x1 := toShipS(aFleet)
  go_wp2_with fail
  refine (toShipS_any _ l1 _ (R1.out.below (BW.out.trans (B7.out.mono hs0)))).mono ?_
  rintro e w8 ⟨u8, rfl, o8, hb8⟩
  have S8 := Lib.hid (OwnShip.sl o8 (by omega))
  have RG8 := Lib.hid (own_range o8)
  have FR8 := Lib.hid (own_freeV o8)
  obtain ⟨D8, k8, rfl⟩ := own_form o8
  have B8 := Lib.hid (B7.out.trans (hb8.mono B7.out.size))
  have w0_8 := Lib.hid (S7.out.below hb8)
  have w0F_8 := Lib.hid (FR7.out.below hb8)
  have w0FS_8 := Lib.hid (FRS7.out.below hb8)
  have hz8 : (w7).heap.size ≤ w8.heap.size := hb8.size
  clear hb8 o8
  -- x2 := toLockingS(aPlan)
  go_wp2_with fail
  refine (toLockingS_any _ l2 _ (R2.out.below (BW.out.trans (B8.out.mono hs0)))).mono ?_
  rintro e w9 ⟨u9, rs9, rfl, o9, hd9, hb9⟩
  have hq9 : (rs9.length : Int) + bulkLock rs9 ≤ 1048576 := by
    have e := congrArg List.length hd9
    rw [List.length_map, List.length_map] at e
    rw [bulkLock_same hd9, e]; omega
  have HD9 := Lib.hid hd9
  have bq9 := bulkLock_pos rs9
  obtain ⟨⟨D9, k9, rfl⟩, s9, fr9, frs9, rg9, rgs9, pw9, apv9, shp9⟩ := o9.parts (by omega)
  have S9 := Lib.hid s9
  have FR9 := Lib.hid fr9
  have FRS9 := Lib.hid frs9
  have RG9 := Lib.hid rg9
  have RGS9 := Lib.hid rgs9
  have PW9 := Lib.hid pw9
  have APV9 := Lib.hid apv9
  have SHP9 := Lib.hid shp9
  clear s9 fr9 frs9 rg9 rgs9 pw9 apv9 shp9
  have B9 := Lib.hid (B8.out.trans (hb9.mono B8.out.size))
  have w0_9 := Lib.hid (w0_8.out.below hb9)
  have w0F_9 := Lib.hid (w0F_8.out.below hb9)
  have w0FS_9 := Lib.hid (w0FS_8.out.below hb9)
  have x1_9 := Lib.hid (S8.out.below hb9)
  have x1F_9 := Lib.hid (FR8.out.below hb9)
  have hz9 : (w8).heap.size ≤ w9.heap.size := hb9.size
  clear hb9 o9 hd9
  -- x5 := toIntS(aShips)
  go_wp2_with fail
  refine (toIntS_any _ l5 _ (R5.out.below (BW.out.trans (B9.out.mono hs0)))).mono ?_
  rintro e w10 ⟨u10, rfl, o10, hb10⟩
  have S10 := Lib.hid (OwnInt.sl o10 (by omega))
  have RG10 := Lib.hid (own_range o10)
  have FR10 := Lib.hid (own_freeV o10)
  obtain ⟨D10, k10, rfl⟩ := own_form o10
  have B10 := Lib.hid (B9.out.trans (hb10.mono B9.out.size))
  have w0_10 := Lib.hid (w0_9.out.below hb10)
  have w0F_10 := Lib.hid (w0F_9.out.below hb10)
  have w0FS_10 := Lib.hid (w0FS_9.out.below hb10)
  have x1_10 := Lib.hid (x1_9.out.below hb10)
  have x1F_10 := Lib.hid (x1F_9.out.below hb10)
  have x2_10 := Lib.hid (S9.out.below hb10)
  have x2F_10 := Lib.hid (FR9.out.below hb10)
  have x2FS_10 := Lib.hid (FRS9.out.below hb10)
  have hz10 : (w9).heap.size ≤ w10.heap.size := hb10.size
  clear hb10 o10
  -- g0, g1 := impl.AppendLocking(toChamber(aK), x1, x2, aUp, aReady, x5)
  have y0_0 : (w10).cell? ⟨w.heap.size, 0, none⟩ = some (.int .i64 d0.length) := cell_onV (ABX0.out.1) B10.out
  have y0_1 : (w10).cell? ⟨w.heap.size, 1, none⟩ = some (.int .i64 d0.lanes) := cell_onV (ABX0.out.2.1) B10.out
  have y0_2 : (w10).cell? ⟨w.heap.size, 2, none⟩ = some (.int .i64 d0.minutes) := cell_onV (ABX0.out.2.2) B10.out
  go_wp2_with fail
  refine (toChamber_any d0.length d0.lanes d0.minutes _).mono ?_
  rintro e w11 ⟨rfl, hb11⟩
  have B11 := Lib.hid (B10.out.trans (hb11.mono B10.out.size))
  have w0_11 := Lib.hid (w0_10.out.below hb11)
  have w0F_11 := Lib.hid (w0F_10.out.below hb11)
  have w0FS_11 := Lib.hid (w0FS_10.out.below hb11)
  have x1_11 := Lib.hid (x1_10.out.below hb11)
  have x1F_11 := Lib.hid (x1F_10.out.below hb11)
  have x2_11 := Lib.hid (x2_10.out.below hb11)
  have x2F_11 := Lib.hid (x2F_10.out.below hb11)
  have x2FS_11 := Lib.hid (x2FS_10.out.below hb11)
  have x5_11 := Lib.hid (S10.out.below hb11)
  have x5F_11 := Lib.hid (FR10.out.below hb11)
  have hz11 : (w10).heap.size ≤ w11.heap.size := hb11.size
  clear hb11 y0_0 y0_1 y0_2
  go_wp2_with fail
  refine (implAppendLocking d0 _ l1 _ rs9 a3 a4 _ l5 _ x1_11.out x2_11.out x5_11.out FF1.out (by omega) (by omega)).mono ?_
  rw [HD9.out]
  intro e w12 hN
  unfold NewPlan at hN
  rw [HR1.out, HR0.out] at hN
  obtain ⟨u12, rs12, rfl, o12, hd12, hb12⟩ := hN
  have hq12 : (rs12.length : Int) + bulkLock rs12 ≤ 9000000 := by
    have e := congrArg List.length hd12
    rw [List.length_map] at e
    rw [← bulkD_map, hd12, e]; exact hlen
  have HD12 := Lib.hid hd12
  have bq12 := bulkLock_pos rs12
  obtain ⟨⟨D12, k12, rfl⟩, s12, fr12, frs12, rg12, rgs12, pw12, apv12, shp12⟩ := o12.parts (by omega)
  have S12 := Lib.hid s12
  have FR12 := Lib.hid fr12
  have FRS12 := Lib.hid frs12
  have RG12 := Lib.hid rg12
  have RGS12 := Lib.hid rgs12
  have PW12 := Lib.hid pw12
  have APV12 := Lib.hid apv12
  have SHP12 := Lib.hid shp12
  clear s12 fr12 frs12 rg12 rgs12 pw12 apv12 shp12
  have B12 := Lib.hid (B11.out.trans (hb12.mono B11.out.size))
  have w0_12 := Lib.hid (w0_11.out.below hb12)
  have w0F_12 := Lib.hid (w0F_11.out.below hb12)
  have w0FS_12 := Lib.hid (w0FS_11.out.below hb12)
  have x1_12 := Lib.hid (x1_11.out.below hb12)
  have x1F_12 := Lib.hid (x1F_11.out.below hb12)
  have x2_12 := Lib.hid (x2_11.out.below hb12)
  have x2F_12 := Lib.hid (x2F_11.out.below hb12)
  have x2FS_12 := Lib.hid (x2FS_11.out.below hb12)
  have x5_12 := Lib.hid (x5_11.out.below hb12)
  have x5F_12 := Lib.hid (x5F_11.out.below hb12)
  have hz12 : (w11).heap.size ≤ w12.heap.size := hb12.size
  clear hb12 o12 hd12 
  -- if !eqLockingS(g0, w0) || g1 != w1 {
  go_wp2_with fail
  refine (eqLockingS_same _ _ rs12 rs7 _ S12.out w0_12.out (HD12.out.trans HD7.out.symm)).mono ?_
  rintro e w13 ⟨rfl, hb13⟩
  have B13 := Lib.hid (B12.out.trans (hb13.mono B12.out.size))
  have w0_13 := Lib.hid (w0_12.out.below hb13)
  have w0F_13 := Lib.hid (w0F_12.out.below hb13)
  have w0FS_13 := Lib.hid (w0FS_12.out.below hb13)
  have x1_13 := Lib.hid (x1_12.out.below hb13)
  have x1F_13 := Lib.hid (x1F_12.out.below hb13)
  have x2_13 := Lib.hid (x2_12.out.below hb13)
  have x2F_13 := Lib.hid (x2F_12.out.below hb13)
  have x2FS_13 := Lib.hid (x2FS_12.out.below hb13)
  have x5_13 := Lib.hid (x5_12.out.below hb13)
  have x5F_13 := Lib.hid (x5F_12.out.below hb13)
  have g0_13 := Lib.hid (S12.out.below hb13)
  have g0F_13 := Lib.hid (FR12.out.below hb13)
  have g0FS_13 := Lib.hid (FRS12.out.below hb13)
  have hz13 : (w12).heap.size ≤ w13.heap.size := hb13.size
  clear hb13
  -- if !eqShipS(x1, toShipS(aFleet)) {
  go_wp2_with fail
  refine (toShipS_any _ l1 _ (R1.out.below (BW.out.trans (B13.out.mono hs0)))).mono ?_
  rintro e w14 ⟨u14, rfl, o14, hb14⟩
  have S14 := Lib.hid (OwnShip.sl o14 (by omega))
  have RG14 := Lib.hid (own_range o14)
  have FR14 := Lib.hid (own_freeV o14)
  obtain ⟨D14, k14, rfl⟩ := own_form o14
  have B14 := Lib.hid (B13.out.trans (hb14.mono B13.out.size))
  have w0_14 := Lib.hid (w0_13.out.below hb14)
  have w0F_14 := Lib.hid (w0F_13.out.below hb14)
  have w0FS_14 := Lib.hid (w0FS_13.out.below hb14)
  have x1_14 := Lib.hid (x1_13.out.below hb14)
  have x1F_14 := Lib.hid (x1F_13.out.below hb14)
  have x2_14 := Lib.hid (x2_13.out.below hb14)
  have x2F_14 := Lib.hid (x2F_13.out.below hb14)
  have x2FS_14 := Lib.hid (x2FS_13.out.below hb14)
  have x5_14 := Lib.hid (x5_13.out.below hb14)
  have x5F_14 := Lib.hid (x5F_13.out.below hb14)
  have g0_14 := Lib.hid (g0_13.out.below hb14)
  have g0F_14 := Lib.hid (g0F_13.out.below hb14)
  have g0FS_14 := Lib.hid (g0FS_13.out.below hb14)
  have hz14 : (w13).heap.size ≤ w14.heap.size := hb14.size
  clear hb14 o14
  go_wp2_with fail
  refine (eqShipS_same _ _ l1 _ x1_14.out S14.out).mono ?_
  rintro e w15 ⟨rfl, hb15⟩
  have B15 := Lib.hid (B14.out.trans (hb15.mono B14.out.size))
  have w0_15 := Lib.hid (w0_14.out.below hb15)
  have w0F_15 := Lib.hid (w0F_14.out.below hb15)
  have w0FS_15 := Lib.hid (w0FS_14.out.below hb15)
  have x1_15 := Lib.hid (x1_14.out.below hb15)
  have x1F_15 := Lib.hid (x1F_14.out.below hb15)
  have x2_15 := Lib.hid (x2_14.out.below hb15)
  have x2F_15 := Lib.hid (x2F_14.out.below hb15)
  have x2FS_15 := Lib.hid (x2FS_14.out.below hb15)
  have x5_15 := Lib.hid (x5_14.out.below hb15)
  have x5F_15 := Lib.hid (x5F_14.out.below hb15)
  have g0_15 := Lib.hid (g0_14.out.below hb15)
  have g0F_15 := Lib.hid (g0F_14.out.below hb15)
  have g0FS_15 := Lib.hid (g0FS_14.out.below hb15)
  have hz15 : (w14).heap.size ≤ w15.heap.size := hb15.size
  clear hb15
  -- if !eqLockingS(x2, toLockingS(aPlan)) {
  go_wp2_with fail
  refine (toLockingS_any _ l2 _ (R2.out.below (BW.out.trans (B15.out.mono hs0)))).mono ?_
  rintro e w16 ⟨u16, rs16, rfl, o16, hd16, hb16⟩
  have hq16 : (rs16.length : Int) + bulkLock rs16 ≤ 1048576 := by
    have e := congrArg List.length hd16
    rw [List.length_map, List.length_map] at e
    rw [bulkLock_same hd16, e]; omega
  have HD16 := Lib.hid hd16
  have bq16 := bulkLock_pos rs16
  obtain ⟨⟨D16, k16, rfl⟩, s16, fr16, frs16, rg16, rgs16, pw16, apv16, shp16⟩ := o16.parts (by omega)
  have S16 := Lib.hid s16
  have FR16 := Lib.hid fr16
  have FRS16 := Lib.hid frs16
  have RG16 := Lib.hid rg16
  have RGS16 := Lib.hid rgs16
  have PW16 := Lib.hid pw16
  have APV16 := Lib.hid apv16
  have SHP16 := Lib.hid shp16
  clear s16 fr16 frs16 rg16 rgs16 pw16 apv16 shp16
  have B16 := Lib.hid (B15.out.trans (hb16.mono B15.out.size))
  have w0_16 := Lib.hid (w0_15.out.below hb16)
  have w0F_16 := Lib.hid (w0F_15.out.below hb16)
  have w0FS_16 := Lib.hid (w0FS_15.out.below hb16)
  have x1_16 := Lib.hid (x1_15.out.below hb16)
  have x1F_16 := Lib.hid (x1F_15.out.below hb16)
  have x2_16 := Lib.hid (x2_15.out.below hb16)
  have x2F_16 := Lib.hid (x2F_15.out.below hb16)
  have x2FS_16 := Lib.hid (x2FS_15.out.below hb16)
  have x5_16 := Lib.hid (x5_15.out.below hb16)
  have x5F_16 := Lib.hid (x5F_15.out.below hb16)
  have g0_16 := Lib.hid (g0_15.out.below hb16)
  have g0F_16 := Lib.hid (g0F_15.out.below hb16)
  have g0FS_16 := Lib.hid (g0FS_15.out.below hb16)
  have hz16 : (w15).heap.size ≤ w16.heap.size := hb16.size
  clear hb16 o16 hd16
  go_wp2_with fail
  refine (eqLockingS_same _ _ rs9 rs16 _ x2_16.out S16.out (HD9.out.trans HD16.out.symm)).mono ?_
  rintro e w17 ⟨rfl, hb17⟩
  have B17 := Lib.hid (B16.out.trans (hb17.mono B16.out.size))
  have w0_17 := Lib.hid (w0_16.out.below hb17)
  have w0F_17 := Lib.hid (w0F_16.out.below hb17)
  have w0FS_17 := Lib.hid (w0FS_16.out.below hb17)
  have x1_17 := Lib.hid (x1_16.out.below hb17)
  have x1F_17 := Lib.hid (x1F_16.out.below hb17)
  have x2_17 := Lib.hid (x2_16.out.below hb17)
  have x2F_17 := Lib.hid (x2F_16.out.below hb17)
  have x2FS_17 := Lib.hid (x2FS_16.out.below hb17)
  have x5_17 := Lib.hid (x5_16.out.below hb17)
  have x5F_17 := Lib.hid (x5F_16.out.below hb17)
  have g0_17 := Lib.hid (g0_16.out.below hb17)
  have g0F_17 := Lib.hid (g0F_16.out.below hb17)
  have g0FS_17 := Lib.hid (g0FS_16.out.below hb17)
  have hz17 : (w16).heap.size ≤ w17.heap.size := hb17.size
  clear hb17
  -- if !eqIntS(x5, toIntS(aShips)) {
  go_wp2_with fail
  refine (toIntS_any _ l5 _ (R5.out.below (BW.out.trans (B17.out.mono hs0)))).mono ?_
  rintro e w18 ⟨u18, rfl, o18, hb18⟩
  have S18 := Lib.hid (OwnInt.sl o18 (by omega))
  have RG18 := Lib.hid (own_range o18)
  have FR18 := Lib.hid (own_freeV o18)
  obtain ⟨D18, k18, rfl⟩ := own_form o18
  have B18 := Lib.hid (B17.out.trans (hb18.mono B17.out.size))
  have w0_18 := Lib.hid (w0_17.out.below hb18)
  have w0F_18 := Lib.hid (w0F_17.out.below hb18)
  have w0FS_18 := Lib.hid (w0FS_17.out.below hb18)
  have x1_18 := Lib.hid (x1_17.out.below hb18)
  have x1F_18 := Lib.hid (x1F_17.out.below hb18)
  have x2_18 := Lib.hid (x2_17.out.below hb18)
  have x2F_18 := Lib.hid (x2F_17.out.below hb18)
  have x2FS_18 := Lib.hid (x2FS_17.out.below hb18)
  have x5_18 := Lib.hid (x5_17.out.below hb18)
  have x5F_18 := Lib.hid (x5F_17.out.below hb18)
  have g0_18 := Lib.hid (g0_17.out.below hb18)
  have g0F_18 := Lib.hid (g0F_17.out.below hb18)
  have g0FS_18 := Lib.hid (g0FS_17.out.below hb18)
  have hz18 : (w17).heap.size ≤ w18.heap.size := hb18.size
  clear hb18 o18
  go_wp2_with fail
  refine (eqIntS_same _ _ l5 _ x5_18.out S18.out).mono ?_
  rintro e w19 ⟨rfl, hb19⟩
  have B19 := Lib.hid (B18.out.trans (hb19.mono B18.out.size))
  have w0_19 := Lib.hid (w0_18.out.below hb19)
  have w0F_19 := Lib.hid (w0F_18.out.below hb19)
  have w0FS_19 := Lib.hid (w0FS_18.out.below hb19)
  have x1_19 := Lib.hid (x1_18.out.below hb19)
  have x1F_19 := Lib.hid (x1F_18.out.below hb19)
  have x2_19 := Lib.hid (x2_18.out.below hb19)
  have x2F_19 := Lib.hid (x2F_18.out.below hb19)
  have x2FS_19 := Lib.hid (x2FS_18.out.below hb19)
  have x5_19 := Lib.hid (x5_18.out.below hb19)
  have x5F_19 := Lib.hid (x5F_18.out.below hb19)
  have g0_19 := Lib.hid (g0_18.out.below hb19)
  have g0F_19 := Lib.hid (g0F_18.out.below hb19)
  have g0FS_19 := Lib.hid (g0FS_18.out.below hb19)
  have hz19 : (w18).heap.size ≤ w19.heap.size := hb19.size
  clear hb19
  -- k := 1
  -- k = markShipS(x1, k)
  go_wp2_with fail
  refine (markShipS_any _ l1 (1) _ x1_19.out (fun g hg => (x1F_19.out g hg).1) (by omega) (by omega) (by omega)).mono ?_
  rintro e w20 ⟨rfl, mm20, hg20⟩
  have ht20 := touch_grown hg20 RG8.out
  have B20 := Lib.hid (TouchR.below B19.out ht20 B19.out.size (by omega))
  have w0_20 := Lib.hid (RdLocks.touch w0_19.out ht20 RG7.out RGS7.out (by omega))
  have w0F_20 := Lib.hid (FreeV.touch w0F_19.out ht20 RG7.out (by omega))
  have w0FS_20 := Lib.hid (FreeRs.touch w0FS_19.out ht20 RGS7.out (by omega))
  have x2_20 := Lib.hid (RdLocks.touch x2_19.out ht20 RG9.out RGS9.out (by omega))
  have x2F_20 := Lib.hid (FreeV.touch x2F_19.out ht20 RG9.out (by omega))
  have x2FS_20 := Lib.hid (FreeRs.touch x2FS_19.out ht20 RGS9.out (by omega))
  have x5_20 := Lib.hid (SlOf.touch x5_19.out ht20 RG10.out (by omega))
  have x5F_20 := Lib.hid (FreeV.touch x5F_19.out ht20 RG10.out (by omega))
  have g0_20 := Lib.hid (RdLocks.touch g0_19.out ht20 RG12.out RGS12.out (by omega))
  have g0F_20 := Lib.hid (FreeV.touch g0F_19.out ht20 RG12.out (by omega))
  have g0FS_20 := Lib.hid (FreeRs.touch g0FS_19.out ht20 RGS12.out (by omega))
  have hz20 : (w19).heap.size ≤ w20.heap.size := ht20.size
  have MK_x1 := Lib.hid mm20
  clear ht20 hg20 mm20
  -- k = markLockingS(x2, k)
  go_wp2_with fail
  refine (markLockingS_any _ rs9 (1 + (l1.length : Int) * 6) _ _ _ x2_20.out x2F_20.out x2FS_20.out RG9.out RGS9.out PW9.out APV9.out (by omega) (by omega) (by omega)).mono ?_
  rintro e w21 ⟨rfl, mm21, ht21⟩
  have B21 := Lib.hid (TouchR.below B20.out ht21 B20.out.size (by omega))
  have w0_21 := Lib.hid (RdLocks.touch w0_20.out ht21 RG7.out RGS7.out (by omega))
  have w0F_21 := Lib.hid (FreeV.touch w0F_20.out ht21 RG7.out (by omega))
  have w0FS_21 := Lib.hid (FreeRs.touch w0FS_20.out ht21 RGS7.out (by omega))
  have x5_21 := Lib.hid (SlOf.touch x5_20.out ht21 RG10.out (by omega))
  have x5F_21 := Lib.hid (FreeV.touch x5F_20.out ht21 RG10.out (by omega))
  have g0_21 := Lib.hid (RdLocks.touch g0_20.out ht21 RG12.out RGS12.out (by omega))
  have g0F_21 := Lib.hid (FreeV.touch g0F_20.out ht21 RG12.out (by omega))
  have g0FS_21 := Lib.hid (FreeRs.touch g0FS_20.out ht21 RGS12.out (by omega))
  have mkx1_21 := Lib.hid (MarkedV.touch MK_x1.out ht21 RG8.out (by omega))
  have hz21 : (w20).heap.size ≤ w21.heap.size := ht21.size
  have MK_x2 := Lib.hid mm21
  clear ht21 mm21
  -- k = markIntS(x5, k)
  go_wp2_with fail
  refine (markIntS_any _ l5 (1 + (l1.length : Int) * 6 + 2 * (rs9.length : Int) + bulkLock rs9) _ x5_21.out (fun g hg => (x5F_21.out g hg).1) (by omega) (by omega) (by omega)).mono ?_
  rintro e w22 ⟨rfl, mm22, hg22⟩
  have ht22 := touch_grown hg22 RG10.out
  have B22 := Lib.hid (TouchR.below B21.out ht22 B21.out.size (by omega))
  have w0_22 := Lib.hid (RdLocks.touch w0_21.out ht22 RG7.out RGS7.out (by omega))
  have w0F_22 := Lib.hid (FreeV.touch w0F_21.out ht22 RG7.out (by omega))
  have w0FS_22 := Lib.hid (FreeRs.touch w0FS_21.out ht22 RGS7.out (by omega))
  have g0_22 := Lib.hid (RdLocks.touch g0_21.out ht22 RG12.out RGS12.out (by omega))
  have g0F_22 := Lib.hid (FreeV.touch g0F_21.out ht22 RG12.out (by omega))
  have g0FS_22 := Lib.hid (FreeRs.touch g0FS_21.out ht22 RGS12.out (by omega))
  have mkx1_22 := Lib.hid (MarkedV.touch mkx1_21.out ht22 RG8.out (by omega))
  have hz22 : (w21).heap.size ≤ w22.heap.size := ht22.size
  have MK_x5 := Lib.hid mm22
  clear ht22 hg22 mm22
  -- if k < 0 || !eqLockingS(g0, w0) || g1 != w1 {
  go_wp2_with fail
  refine (eqLockingS_same _ _ rs12 rs7 _ g0_22.out w0_22.out (HD12.out.trans HD7.out.symm)).mono ?_
  rintro e w23 ⟨rfl, hb23⟩
  have B23 := Lib.hid (B22.out.trans (hb23.mono B22.out.size))
  have w0_23 := Lib.hid (w0_22.out.below hb23)
  have w0F_23 := Lib.hid (w0F_22.out.below hb23)
  have w0FS_23 := Lib.hid (w0FS_22.out.below hb23)
  have g0_23 := Lib.hid (g0_22.out.below hb23)
  have g0F_23 := Lib.hid (g0F_22.out.below hb23)
  have g0FS_23 := Lib.hid (g0FS_22.out.below hb23)
  have mkx1_23 := Lib.hid (mkx1_22.out.below hb23)
  have mkx5_23 := Lib.hid (MK_x5.out.below hb23)
  have hz23 : (w22).heap.size ≤ w23.heap.size := hb23.size
  clear hb23
  -- m := 1
  -- m = markLockingS(g0, m)
  go_wp2_with fail
  refine (markLockingS_any _ rs12 (1) _ _ _ g0_23.out g0F_23.out g0FS_23.out RG12.out RGS12.out PW12.out APV12.out (by omega) (by omega) (by omega)).mono ?_
  rintro e w24 ⟨rfl, mm24, ht24⟩
  have B24 := Lib.hid (TouchR.below B23.out ht24 B23.out.size (by omega))
  have w0_24 := Lib.hid (RdLocks.touch w0_23.out ht24 RG7.out RGS7.out (by omega))
  have w0F_24 := Lib.hid (FreeV.touch w0F_23.out ht24 RG7.out (by omega))
  have w0FS_24 := Lib.hid (FreeRs.touch w0FS_23.out ht24 RGS7.out (by omega))
  have mkx1_24 := Lib.hid (MarkedV.touch mkx1_23.out ht24 RG8.out (by omega))
  have mkx5_24 := Lib.hid (MarkedV.touch mkx5_23.out ht24 RG10.out (by omega))
  have hz24 : (w23).heap.size ≤ w24.heap.size := ht24.size
  have MK_g0 := Lib.hid mm24
  clear ht24 mm24
  -- q := 1
  -- q = heldLockingS(g0, q)
  go_wp2_with fail
  refine (heldLockingS_any _ rs12 D12 k12 rfl (1) _ MK_g0.out SHP12.out (by omega) (by omega) (by omega)).mono ?_
  rintro e w25 ⟨rfl, hb25⟩
  have B25 := Lib.hid (B24.out.trans (hb25.mono B24.out.size))
  have w0_25 := Lib.hid (w0_24.out.below hb25)
  have w0F_25 := Lib.hid (w0F_24.out.below hb25)
  have w0FS_25 := Lib.hid (w0FS_24.out.below hb25)
  have mkx1_25 := Lib.hid (mkx1_24.out.below hb25)
  have mkx5_25 := Lib.hid (mkx5_24.out.below hb25)
  have mkg0_25 := Lib.hid (MK_g0.out.below hb25)
  have hz25 : (w24).heap.size ≤ w25.heap.size := hb25.size
  clear hb25
  -- if q < 0 {
  -- if q != m {
  -- h0, h1 := impl.AppendLocking(toChamber(aK), toShipS(aFleet), toLockingS(aPlan), aUp, aReady, toIntS(aShips))
  have y0_0 : (w25).cell? ⟨w.heap.size, 0, none⟩ = some (.int .i64 d0.length) := cell_onV (ABX0.out.1) B25.out
  have y0_1 : (w25).cell? ⟨w.heap.size, 1, none⟩ = some (.int .i64 d0.lanes) := cell_onV (ABX0.out.2.1) B25.out
  have y0_2 : (w25).cell? ⟨w.heap.size, 2, none⟩ = some (.int .i64 d0.minutes) := cell_onV (ABX0.out.2.2) B25.out
  go_wp2_with fail
  refine (toChamber_any d0.length d0.lanes d0.minutes _).mono ?_
  rintro e w26 ⟨rfl, hb26⟩
  have B26 := Lib.hid (B25.out.trans (hb26.mono B25.out.size))
  have w0_26 := Lib.hid (w0_25.out.below hb26)
  have w0F_26 := Lib.hid (w0F_25.out.below hb26)
  have w0FS_26 := Lib.hid (w0FS_25.out.below hb26)
  have mkx1_26 := Lib.hid (mkx1_25.out.below hb26)
  have mkx5_26 := Lib.hid (mkx5_25.out.below hb26)
  have mkg0_26 := Lib.hid (mkg0_25.out.below hb26)
  have hz26 : (w25).heap.size ≤ w26.heap.size := hb26.size
  clear hb26 y0_0 y0_1 y0_2
  go_wp2_with fail
  refine (toShipS_any _ l1 _ (R1.out.below (BW.out.trans (B26.out.mono hs0)))).mono ?_
  rintro e w27 ⟨u27, rfl, o27, hb27⟩
  have S27 := Lib.hid (OwnShip.sl o27 (by omega))
  have RG27 := Lib.hid (own_range o27)
  have FR27 := Lib.hid (own_freeV o27)
  obtain ⟨D27, k27, rfl⟩ := own_form o27
  have B27 := Lib.hid (B26.out.trans (hb27.mono B26.out.size))
  have w0_27 := Lib.hid (w0_26.out.below hb27)
  have w0F_27 := Lib.hid (w0F_26.out.below hb27)
  have w0FS_27 := Lib.hid (w0FS_26.out.below hb27)
  have mkx1_27 := Lib.hid (mkx1_26.out.below hb27)
  have mkx5_27 := Lib.hid (mkx5_26.out.below hb27)
  have mkg0_27 := Lib.hid (mkg0_26.out.below hb27)
  have hz27 : (w26).heap.size ≤ w27.heap.size := hb27.size
  clear hb27 o27
  go_wp2_with fail
  refine (toLockingS_any _ l2 _ (R2.out.below (BW.out.trans (B27.out.mono hs0)))).mono ?_
  rintro e w28 ⟨u28, rs28, rfl, o28, hd28, hb28⟩
  have hq28 : (rs28.length : Int) + bulkLock rs28 ≤ 1048576 := by
    have e := congrArg List.length hd28
    rw [List.length_map, List.length_map] at e
    rw [bulkLock_same hd28, e]; omega
  have HD28 := Lib.hid hd28
  have bq28 := bulkLock_pos rs28
  obtain ⟨⟨D28, k28, rfl⟩, s28, fr28, frs28, rg28, rgs28, pw28, apv28, shp28⟩ := o28.parts (by omega)
  have S28 := Lib.hid s28
  have FR28 := Lib.hid fr28
  have FRS28 := Lib.hid frs28
  have RG28 := Lib.hid rg28
  have RGS28 := Lib.hid rgs28
  have PW28 := Lib.hid pw28
  have APV28 := Lib.hid apv28
  have SHP28 := Lib.hid shp28
  clear s28 fr28 frs28 rg28 rgs28 pw28 apv28 shp28
  have B28 := Lib.hid (B27.out.trans (hb28.mono B27.out.size))
  have w0_28 := Lib.hid (w0_27.out.below hb28)
  have w0F_28 := Lib.hid (w0F_27.out.below hb28)
  have w0FS_28 := Lib.hid (w0FS_27.out.below hb28)
  have mkx1_28 := Lib.hid (mkx1_27.out.below hb28)
  have mkx5_28 := Lib.hid (mkx5_27.out.below hb28)
  have mkg0_28 := Lib.hid (mkg0_27.out.below hb28)
  have t27_28 := Lib.hid (S27.out.below hb28)
  have hz28 : (w27).heap.size ≤ w28.heap.size := hb28.size
  clear hb28 o28 hd28
  go_wp2_with fail
  refine (toIntS_any _ l5 _ (R5.out.below (BW.out.trans (B28.out.mono hs0)))).mono ?_
  rintro e w29 ⟨u29, rfl, o29, hb29⟩
  have S29 := Lib.hid (OwnInt.sl o29 (by omega))
  have RG29 := Lib.hid (own_range o29)
  have FR29 := Lib.hid (own_freeV o29)
  obtain ⟨D29, k29, rfl⟩ := own_form o29
  have B29 := Lib.hid (B28.out.trans (hb29.mono B28.out.size))
  have w0_29 := Lib.hid (w0_28.out.below hb29)
  have w0F_29 := Lib.hid (w0F_28.out.below hb29)
  have w0FS_29 := Lib.hid (w0FS_28.out.below hb29)
  have mkx1_29 := Lib.hid (mkx1_28.out.below hb29)
  have mkx5_29 := Lib.hid (mkx5_28.out.below hb29)
  have mkg0_29 := Lib.hid (mkg0_28.out.below hb29)
  have t27_29 := Lib.hid (t27_28.out.below hb29)
  have t28_29 := Lib.hid (S28.out.below hb29)
  have hz29 : (w28).heap.size ≤ w29.heap.size := hb29.size
  clear hb29 o29
  go_wp2_with fail
  refine (implAppendLocking d0 _ l1 _ rs28 a3 a4 _ l5 _ t27_29.out t28_29.out S29.out FF1.out (by omega) (by omega)).mono ?_
  rw [HD28.out]
  intro e w30 hN
  unfold NewPlan at hN
  rw [HR1.out, HR0.out] at hN
  obtain ⟨u30, rs30, rfl, o30, hd30, hb30⟩ := hN
  have hq30 : (rs30.length : Int) + bulkLock rs30 ≤ 9000000 := by
    have e := congrArg List.length hd30
    rw [List.length_map] at e
    rw [← bulkD_map, hd30, e]; exact hlen
  have HD30 := Lib.hid hd30
  have bq30 := bulkLock_pos rs30
  obtain ⟨⟨D30, k30, rfl⟩, s30, fr30, frs30, rg30, rgs30, pw30, apv30, shp30⟩ := o30.parts (by omega)
  have S30 := Lib.hid s30
  have FR30 := Lib.hid fr30
  have FRS30 := Lib.hid frs30
  have RG30 := Lib.hid rg30
  have RGS30 := Lib.hid rgs30
  have PW30 := Lib.hid pw30
  have APV30 := Lib.hid apv30
  have SHP30 := Lib.hid shp30
  clear s30 fr30 frs30 rg30 rgs30 pw30 apv30 shp30
  have B30 := Lib.hid (B29.out.trans (hb30.mono B29.out.size))
  have w0_30 := Lib.hid (w0_29.out.below hb30)
  have w0F_30 := Lib.hid (w0F_29.out.below hb30)
  have w0FS_30 := Lib.hid (w0FS_29.out.below hb30)
  have mkx1_30 := Lib.hid (mkx1_29.out.below hb30)
  have mkx5_30 := Lib.hid (mkx5_29.out.below hb30)
  have mkg0_30 := Lib.hid (mkg0_29.out.below hb30)
  have t27_30 := Lib.hid (t27_29.out.below hb30)
  have t28_30 := Lib.hid (t28_29.out.below hb30)
  have t29_30 := Lib.hid (S29.out.below hb30)
  have hz30 : (w29).heap.size ≤ w30.heap.size := hb30.size
  clear hb30 o30 hd30 
  -- if !eqLockingS(h0, w0) || h1 != w1 {
  go_wp2_with fail
  refine (eqLockingS_same _ _ rs30 rs7 _ S30.out w0_30.out (HD30.out.trans HD7.out.symm)).mono ?_
  rintro e w31 ⟨rfl, hb31⟩
  have B31 := Lib.hid (B30.out.trans (hb31.mono B30.out.size))
  have w0_31 := Lib.hid (w0_30.out.below hb31)
  have w0F_31 := Lib.hid (w0F_30.out.below hb31)
  have w0FS_31 := Lib.hid (w0FS_30.out.below hb31)
  have mkx1_31 := Lib.hid (mkx1_30.out.below hb31)
  have mkx5_31 := Lib.hid (mkx5_30.out.below hb31)
  have mkg0_31 := Lib.hid (mkg0_30.out.below hb31)
  have h0_31 := Lib.hid (S30.out.below hb31)
  have h0F_31 := Lib.hid (FR30.out.below hb31)
  have h0FS_31 := Lib.hid (FRS30.out.below hb31)
  have hz31 : (w30).heap.size ≤ w31.heap.size := hb31.size
  clear hb31
  -- q = 1
  -- q = heldLockingS(g0, q)
  go_wp2_with fail
  refine (heldLockingS_any _ rs12 D12 k12 rfl (1) _ mkg0_31.out SHP12.out (by omega) (by omega) (by omega)).mono ?_
  rintro e w32 ⟨rfl, hb32⟩
  have B32 := Lib.hid (B31.out.trans (hb32.mono B31.out.size))
  have w0_32 := Lib.hid (w0_31.out.below hb32)
  have w0F_32 := Lib.hid (w0F_31.out.below hb32)
  have w0FS_32 := Lib.hid (w0FS_31.out.below hb32)
  have mkx1_32 := Lib.hid (mkx1_31.out.below hb32)
  have mkx5_32 := Lib.hid (mkx5_31.out.below hb32)
  have mkg0_32 := Lib.hid (mkg0_31.out.below hb32)
  have h0_32 := Lib.hid (h0_31.out.below hb32)
  have h0F_32 := Lib.hid (h0F_31.out.below hb32)
  have h0FS_32 := Lib.hid (h0FS_31.out.below hb32)
  have hz32 : (w31).heap.size ≤ w32.heap.size := hb32.size
  clear hb32
  -- if q < 0 {
  -- if q != m {
  -- return true
  go_wp2
  go_ret
  exact ⟨rfl, BW.out.trans (B32.out.mono hs0)⟩
set_option maxRecDepth 100000 in
theorem lifted (os : Os) (started : os.Started) (H : Type) (enc : TypeId × Value → H) :
    ReturnsInHanded {} Try.checked os 8 .any (Rows.fnExactAppendLockingSpec.pre6 enc Try.prog Try.f8 Rows.fnExactAppendLockingRow.domain false) (Rows.fnExactAppendLockingSpec.post enc Try.prog Try.f8 false true false false) := by
  refine returnsInHanded_of_change (C := Try.checked) own started (by kernel_rfl) Try.func8
    (ChangeSpec.witness6 (enc := enc) (C := Try.checked) false ⟨#[], #[.agg #[.int .i64 0, .int .i64 0, .int .i64 0], .slice none 0 0, .slice none 0 0, .bool false, .int .i64 0, .slice none 0 0], []⟩ 8 (by kernel_rfl) (by kernel_rfl) (by kernel_rfl) (by kernel_rfl)) ?_
  intro W base args ds gs before hval0 hW _ _
  have hval : ∀ (j : Nat) t v, Try.f8.params[j]? = some t → args[j]? = some v → Value.okWide Try.prog W .any base t v := hval0
  have hW' := hW
  obtain ⟨p, q, hA0, hV, rfl, _, _⟩ := hW
  have hA : DataW.TrodAll enc Try.prog W 0 (fun _ => true) true Try.f8.params.toList args.toList ds p := hA0
  rw [Try.params8] at hA hval
  obtain ⟨v0, vs0, d0, ds0, p0, q0, hargs, rfl, rfl, h0, r0⟩ := trodAll_cons hA
  obtain ⟨v1, vs1, d1, ds1, p1, q1, rfl, rfl, rfl, h1, r1⟩ := trodAll_cons r0
  obtain ⟨v2, vs2, d2, ds2, p2, q2, rfl, rfl, rfl, h2, r2⟩ := trodAll_cons r1
  obtain ⟨v3, vs3, d3, ds3, p3, q3, rfl, rfl, rfl, h3, r3⟩ := trodAll_cons r2
  obtain ⟨v4, vs4, d4, ds4, p4, q4, rfl, rfl, rfl, h4, r4⟩ := trodAll_cons r3
  obtain ⟨v5, vs5, d5, ds5, p5, q5, rfl, rfl, rfl, h5, r5⟩ := trodAll_cons r4
  obtain ⟨rfl, rfl, rfl⟩ := trodAll_nil r5
  obtain rfl : args = #[v0, v1, v2, v3, v4, v5] := by cases args; simp_all
  obtain ⟨d0', rfl, g0⟩ := open_chamber_arg (hval 0 43 v0 rfl rfl) h0
  obtain ⟨A1, c1, l1, rfl, g1⟩ := open_ships_arg (hval 1 44 v1 rfl rfl) h1
  obtain ⟨A2, c2, l2, rfl, g2, _⟩ := open_lockings_arg (hval 2 45 v2 rfl rfl) h2
  obtain ⟨a3, rfl, rfl, rfl⟩ := open_bool Try.underlying4 (hval 3 4 v3 rfl rfl) h3
  obtain ⟨a4, rfl, rfl, rfl, g4⟩ := open_int Try.underlying3 (hval 4 3 v4 rfl rfl) h4
  obtain ⟨A5, c5, l5, rfl, g5⟩ := open_ints_arg (hval 5 33 v5 rfl rfl) h5
  refine (law d0' A1 c1 l1 A2 c2 l2 a3 a4 A5 c5 l5 W g0 g1 g2 g4 g5).mono fun e W' ⟨he, hb⟩ => ⟨_, he, ?_⟩
  exact law_post laidOut (by kernel_rfl) rfl (by kernel_rfl) Try.underlying4 rfl rfl rfl hW' hb
theorem holds : Rows.FnExactAppendLockingSaid :=
  OpenClaim.holds_of_wide 8 Try.f8 rfl rfl rfl rfl rfl rfl rfl ⟨rfl, rfl, rfl, rfl, rfl⟩ rfl rfl rfl rfl rfl (by kernel_rfl) Try.func8 (by kernel_rfl)
    (of_decide_eq_true (by kernel_rfl)) (by unfold Func.isWrapper; first | (rw [if_pos (by decide +kernel)]; kernel_rfl) | (rw [if_neg (by decide +kernel)]; exact ⟨rfl, rfl⟩))
    (fun os started H enc _ => lifted os started H enc)
end Go.Proofs.Ytlddampjbmklkaa.exactAppendLocking
