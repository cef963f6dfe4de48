
/- The exact law of AllotBerths holds for all arguments: impl.AllotBerths answers as its model, its answer owns its memory, and the arguments read as before. No condition. -/
import Derived.Test.YtghjfcnboocmjaaRows
import Derived.Test.YtghjfcnboocmjaaBa0
import Derived.Test.YtghjfcnboocmjaaBa14
import Derived.Test.YtghjfcnboocmjaaBa15
import Derived.Test.YtghjfcnboocmjaaBa3
import Derived.Test.YtghjfcnboocmjaaBa7
import Derived.Test.YtghjfcnboocmjaaBa5
import Derived.Test.YtghjfcnboocmjaaBa4
import Derived.Deep.RegionHeld3
import Derived.Deep.DeepCutAuto
namespace Go.Proofs.Ytghjfcnboocmjaa.exactAllotBerths
open Go.ChangeShapes Go.WideShapes Go.ChangeAt Go.RowKit
set_option maxRecDepth 100000
theorem own : ownKnob Try.prog.godebug = none := by kernel_rfl
theorem laidOut : laidOutB Try.prog = true := by kernel_rfl
set_option maxHeartbeats 16000000 in
theorem law (A0 : Option Addr) (c0 : Nat) (l0 : List BerthD) (A1 : Option Addr) (c1 : Nat) (l1 : List ShipD) (A2 : Option Addr) (c2 : Nat) (l2 : List StayD) (w : World) (hin0 : l0.length ≤ maxLen ∧ (l0.length ≤ 1000000000 → SlBerth w (.slice A0 l0.length c0) l0) ∧ ∀ x ∈ l0, BerthD.wf x) (hin1 : l1.length ≤ maxLen ∧ (l1.length ≤ 1000000000 → SlShip w (.slice A1 l1.length c1) l1) ∧ ∀ x ∈ l1, ShipD.wf x) (hin2 : l2.length ≤ maxLen ∧ (l2.length ≤ 1000000000 → SlStay w (.slice A2 l2.length c2) l2) ∧ ∀ x ∈ l2, StayD.wf x) :
    Calls Try.prog 9 #[.slice A0 l0.length c0, .slice A1 l1.length c1, .slice A2 l2.length c2] w fun e w' => e = .returned (.bool true) ∧ Below w.heap.size w w' := by
  obtain ⟨m0, s0, f0⟩ := hin0
  unfold maxLen at m0
  have SS0 := Lib.hid s0
  have FF0 := Lib.hid f0
  clear s0 f0
  obtain ⟨m1, s1, f1⟩ := hin1
  unfold maxLen at m1
  have SS1 := Lib.hid s1
  have FF1 := Lib.hid f1
  clear s1 f1
  obtain ⟨m2, s2, f2⟩ := hin2
  unfold maxLen at m2
  have SS2 := Lib.hid s2
  have FF2 := Lib.hid f2
  clear s2 f2
  have HB0 : Below w.heap.size w w := Below.refl _ _
  have BW := Lib.hid HB0
  clear HB0
  go_enter Try.func9, Try.ntmps9
  have B0 := Lib.hid (Below.refl (w).heap.size w)
  have hs0 : w.heap.size ≤ (w).heap.size := BW.out.size
  obtain ⟨r0, hr0⟩ : ∃ r0, ((allotO l0 l1 l2).getD []) = r0 := ⟨_, rfl⟩
  have HR0 := Lib.hid hr0
  clear hr0
  obtain ⟨r1, hr1⟩ : ∃ r1, ((allotO l0 l1 l2).isSome) = r1 := ⟨_, rfl⟩
  have HR1 := Lib.hid hr1
  clear hr1
  -- left := 1 << 20
  -- left = szBerthS(aBerths, left)
  have hl1 : 0 ≤ (1048576 : Int) := by omega
  have hll1 : (1048576 : Int) ≤ 1048576 := by omega
  go_wp2_with fail
  refine (szBerthS_any A0 l0 c0 _ (by omega) (fun h => (SS0.out h).below (BW.out.trans (B0.out.mono hs0))) (fun x hx => wfszBerth (FF0.out x hx)) (1048576) hl1 hll1).mono ?_
  rintro e w1 ⟨rfl, hb1⟩
  have B1 := Lib.hid (B0.out.trans (hb1.mono B0.out.size))
  have hz1 : (w).heap.size ≤ w1.heap.size := hb1.size
  clear hb1 
  have ps1 := bulkBerth_pos l0
  by_cases neg1 : (1048576 : Int) < ((l0.length : Int) + bulkBerth l0)
  · rw [leftOf_no neg1]
    go_wp2
    go_ret
    exact ⟨rfl, BW.out.trans (B1.out.mono hs0)⟩
  rw [leftOf_yes neg1]
  have ne1 : ¬ (1048576 - ((l0.length : Int) + bulkBerth l0) : Int) < 0 := by omega
  have R0 := Lib.hid (SS0.out (by omega))
  clear SS0
  -- left = szShipS(aFleet, left)
  have hl2 : 0 ≤ (1048576 - ((l0.length : Int) + bulkBerth l0) : Int) := by omega
  have hll2 : (1048576 - ((l0.length : Int) + bulkBerth l0) : Int) ≤ 1048576 := by omega
  go_wp2_with fail
  refine (szShipS_any A1 l1 c1 _ (by omega) (fun h => (SS1.out h).below (BW.out.trans (B1.out.mono hs0))) (fun x hx => wfszShip (FF1.out x hx)) (1048576 - ((l0.length : Int) + bulkBerth l0)) hl2 hll2).mono ?_
  rintro e w2 ⟨rfl, hb2⟩
  have B2 := Lib.hid (B1.out.trans (hb2.mono B1.out.size))
  have hz2 : (w1).heap.size ≤ w2.heap.size := hb2.size
  clear hb2 
  have ps2 := bulkShip_pos l1
  by_cases neg2 : (1048576 - ((l0.length : Int) + bulkBerth l0) : Int) < ((l1.length : Int) + bulkShip l1)
  · rw [leftOf_no neg2]
    go_wp2
    go_ret
    exact ⟨rfl, BW.out.trans (B2.out.mono hs0)⟩
  rw [leftOf_yes neg2]
  have ne2 : ¬ (1048576 - ((l0.length : Int) + bulkBerth l0) - ((l1.length : Int) + bulkShip l1) : Int) < 0 := by omega
  have R1 := Lib.hid (SS1.out (by omega))
  clear SS1
  -- left = szStayS(aAsks, left)
  have hl3 : 0 ≤ (1048576 - ((l0.length : Int) + bulkBerth l0) - ((l1.length : Int) + bulkShip l1) : Int) := by omega
  have hll3 : (1048576 - ((l0.length : Int) + bulkBerth l0) - ((l1.length : Int) + bulkShip l1) : Int) ≤ 1048576 := by omega
  go_wp2_with fail
  refine (szStayS_any A2 l2 c2 _ (by omega) (fun h => (SS2.out h).below (BW.out.trans (B2.out.mono hs0))) (1048576 - ((l0.length : Int) + bulkBerth l0) - ((l1.length : Int) + bulkShip l1)) hl3 hll3).mono ?_
  rintro e w3 ⟨rfl, hb3⟩
  have B3 := Lib.hid (B2.out.trans (hb3.mono B2.out.size))
  have hz3 : (w2).heap.size ≤ w3.heap.size := hb3.size
  clear hb3 
  have ps3 := bulkStay_pos l2
  by_cases neg3 : (1048576 - ((l0.length : Int) + bulkBerth l0) - ((l1.length : Int) + bulkShip l1) : Int) < ((l2.length : Int) + bulkStay l2)
  · rw [leftOf_no neg3]
    go_wp2
    go_ret
    exact ⟨rfl, BW.out.trans (B3.out.mono hs0)⟩
  rw [leftOf_yes neg3]
  have ne3 : ¬ (1048576 - ((l0.length : Int) + bulkBerth l0) - ((l1.length : Int) + bulkShip l1) - ((l2.length : Int) + bulkStay l2) : Int) < 0 := by omega
  have R2 := Lib.hid (SS2.out (by omega))
  clear SS2
  -- w0, w1 := spec.AllotBerths(toBerthS(aBerths), toShipS(aFleet), toStayS(aAsks))
  go_wp2_with fail
  refine (toBerthS_any _ l0 _ (R0.out.below (BW.out.trans (B3.out.mono hs0)))).mono ?_
  rintro e w4 ⟨u4, rfl, o4, hb4⟩
  have S4 := Lib.hid (OwnBerth.sl o4 (by omega))
  have RG4 := Lib.hid (own_range o4)
  have FR4 := Lib.hid (own_freeV o4)
  obtain ⟨D4, k4, rfl⟩ := own_form o4
  have B4 := Lib.hid (B3.out.trans (hb4.mono B3.out.size))
  have hz4 : (w3).heap.size ≤ w4.heap.size := hb4.size
  clear hb4 o4
  go_wp2_with fail
  refine (toShipS_any _ l1 _ (R1.out.below (BW.out.trans (B4.out.mono hs0)))).mono ?_
  rintro e w5 ⟨u5, rfl, o5, hb5⟩
  have S5 := Lib.hid (OwnShip.sl o5 (by omega))
  have RG5 := Lib.hid (own_range o5)
  have FR5 := Lib.hid (own_freeV o5)
  obtain ⟨D5, k5, rfl⟩ := own_form o5
  have B5 := Lib.hid (B4.out.trans (hb5.mono B4.out.size))
  have t4_5 := Lib.hid (S4.out.below hb5)
  have hz5 : (w4).heap.size ≤ w5.heap.size := hb5.size
  clear hb5 o5
  go_wp2_with fail
  refine (toStayS_any _ l2 _ (R2.out.below (BW.out.trans (B5.out.mono hs0)))).mono ?_
  rintro e w6 ⟨u6, rfl, o6, hb6⟩
  have S6 := Lib.hid (OwnStay.sl o6 (by omega))
  have RG6 := Lib.hid (own_range o6)
  have FR6 := Lib.hid (own_freeV o6)
  obtain ⟨D6, k6, rfl⟩ := own_form o6
  have B6 := Lib.hid (B5.out.trans (hb6.mono B5.out.size))
  have t4_6 := Lib.hid (t4_5.out.below hb6)
  have t5_6 := Lib.hid (S5.out.below hb6)
  have hz6 : (w5).heap.size ≤ w6.heap.size := hb6.size
  clear hb6 o6
  have hlen : r0.length ≤ 10000000 := by rw [← HR0.out]; exact (by have := allotO_len l0 l1 l2; omega)
  go_wp2_with fail
  refine (specAllotBerths _ l0 _ l1 _ l2 _ t4_6.out t5_6.out S6.out FF0.out FF1.out).mono ?_
  intro e w7 hN
  unfold NewAllot at hN
  rw [HR1.out, HR0.out] at hN
  obtain ⟨u7, rfl, o7, hb7⟩ := hN
  have S7 := Lib.hid (OwnStay.sl o7 (by omega))
  have RG7 := Lib.hid (own_range o7)
  have FR7 := Lib.hid (own_freeV o7)
  obtain ⟨D7, k7, rfl⟩ := own_form o7
  have B7 := Lib.hid (B6.out.trans (hb7.mono B6.out.size))
  have t4_7 := Lib.hid (t4_6.out.below hb7)
  have t5_7 := Lib.hid (t5_6.out.below hb7)
  have t6_7 := Lib.hid (S6.out.below hb7)
  have hz7 : (w6).heap.size ≤ w7.heap.size := hb7.size
  clear o7
  clear hb7 
  -- x0 := toBerthS(aBerths)
  go_wp2_with fail
  refine (toBerthS_any _ l0 _ (R0.out.below (BW.out.trans (B7.out.mono hs0)))).mono ?_
  rintro e w8 ⟨u8, rfl, o8, hb8⟩
  have S8 := Lib.hid (OwnBerth.sl o8 (by omega))
  have RG8 := Lib.hid (own_range o8)
  have FR8 := Lib.hid (own_freeV o8)
  obtain ⟨D8, k8, rfl⟩ := own_form o8
  have B8 := Lib.hid (B7.out.trans (hb8.mono B7.out.size))
  have w0_8 := Lib.hid (S7.out.below hb8)
  have w0F_8 := Lib.hid (FR7.out.below hb8)
  have hz8 : (w7).heap.size ≤ w8.heap.size := hb8.size
  clear hb8 o8
  -- x1 := toShipS(aFleet)
  go_wp2_with fail
  refine (toShipS_any _ l1 _ (R1.out.below (BW.out.trans (B8.out.mono hs0)))).mono ?_
  rintro e w9 ⟨u9, rfl, o9, hb9⟩
  have S9 := Lib.hid (OwnShip.sl o9 (by omega))
  have RG9 := Lib.hid (own_range o9)
  have FR9 := Lib.hid (own_freeV o9)
  obtain ⟨D9, k9, rfl⟩ := own_form o9
  have B9 := Lib.hid (B8.out.trans (hb9.mono B8.out.size))
  have w0_9 := Lib.hid (w0_8.out.below hb9)
  have w0F_9 := Lib.hid (w0F_8.out.below hb9)
  have x0_9 := Lib.hid (S8.out.below hb9)
  have x0F_9 := Lib.hid (FR8.out.below hb9)
  have hz9 : (w8).heap.size ≤ w9.heap.size := hb9.size
  clear hb9 o9
  -- x2 := toStayS(aAsks)
  go_wp2_with fail
  refine (toStayS_any _ l2 _ (R2.out.below (BW.out.trans (B9.out.mono hs0)))).mono ?_
  rintro e w10 ⟨u10, rfl, o10, hb10⟩
  have S10 := Lib.hid (OwnStay.sl o10 (by omega))
  have RG10 := Lib.hid (own_range o10)
  have FR10 := Lib.hid (own_freeV o10)
  obtain ⟨D10, k10, rfl⟩ := own_form o10
  have B10 := Lib.hid (B9.out.trans (hb10.mono B9.out.size))
  have w0_10 := Lib.hid (w0_9.out.below hb10)
  have w0F_10 := Lib.hid (w0F_9.out.below hb10)
  have x0_10 := Lib.hid (x0_9.out.below hb10)
  have x0F_10 := Lib.hid (x0F_9.out.below hb10)
  have x1_10 := Lib.hid (S9.out.below hb10)
  have x1F_10 := Lib.hid (FR9.out.below hb10)
  have hz10 : (w9).heap.size ≤ w10.heap.size := hb10.size
  clear hb10 o10
  -- g0, g1 := impl.AllotBerths(x0, x1, x2)
  go_wp2_with fail
  refine (implAllotBerths _ l0 _ l1 _ l2 _ x0_10.out x1_10.out S10.out FF0.out FF1.out).mono ?_
  intro e w11 hN
  unfold NewAllot at hN
  rw [HR1.out, HR0.out] at hN
  obtain ⟨u11, rfl, o11, hb11⟩ := hN
  have S11 := Lib.hid (OwnStay.sl o11 (by omega))
  have RG11 := Lib.hid (own_range o11)
  have FR11 := Lib.hid (own_freeV o11)
  obtain ⟨D11, k11, rfl⟩ := own_form o11
  have B11 := Lib.hid (B10.out.trans (hb11.mono B10.out.size))
  have w0_11 := Lib.hid (w0_10.out.below hb11)
  have w0F_11 := Lib.hid (w0F_10.out.below hb11)
  have x0_11 := Lib.hid (x0_10.out.below hb11)
  have x0F_11 := Lib.hid (x0F_10.out.below hb11)
  have x1_11 := Lib.hid (x1_10.out.below hb11)
  have x1F_11 := Lib.hid (x1F_10.out.below hb11)
  have x2_11 := Lib.hid (S10.out.below hb11)
  have x2F_11 := Lib.hid (FR10.out.below hb11)
  have hz11 : (w10).heap.size ≤ w11.heap.size := hb11.size
  clear o11
  clear hb11 
  -- if !eqStayS(g0, w0) || g1 != w1 {
  go_wp2_with fail
  refine (eqStayS_same _ _ r0 _ S11.out w0_11.out).mono ?_
  rintro e w12 ⟨rfl, hb12⟩
  have B12 := Lib.hid (B11.out.trans (hb12.mono B11.out.size))
  have w0_12 := Lib.hid (w0_11.out.below hb12)
  have w0F_12 := Lib.hid (w0F_11.out.below hb12)
  have x0_12 := Lib.hid (x0_11.out.below hb12)
  have x0F_12 := Lib.hid (x0F_11.out.below hb12)
  have x1_12 := Lib.hid (x1_11.out.below hb12)
  have x1F_12 := Lib.hid (x1F_11.out.below hb12)
  have x2_12 := Lib.hid (x2_11.out.below hb12)
  have x2F_12 := Lib.hid (x2F_11.out.below hb12)
  have g0_12 := Lib.hid (S11.out.below hb12)
  have g0F_12 := Lib.hid (FR11.out.below hb12)
  have hz12 : (w11).heap.size ≤ w12.heap.size := hb12.size
  clear hb12
  -- if !eqBerthS(x0, toBerthS(aBerths)) {
  go_wp2_with fail
  refine (toBerthS_any _ l0 _ (R0.out.below (BW.out.trans (B12.out.mono hs0)))).mono ?_
  rintro e w13 ⟨u13, rfl, o13, hb13⟩
  have S13 := Lib.hid (OwnBerth.sl o13 (by omega))
  have RG13 := Lib.hid (own_range o13)
  have FR13 := Lib.hid (own_freeV o13)
  obtain ⟨D13, k13, rfl⟩ := own_form o13
  have B13 := Lib.hid (B12.out.trans (hb13.mono B12.out.size))
  have w0_13 := Lib.hid (w0_12.out.below hb13)
  have w0F_13 := Lib.hid (w0F_12.out.below hb13)
  have x0_13 := Lib.hid (x0_12.out.below hb13)
  have x0F_13 := Lib.hid (x0F_12.out.below hb13)
  have x1_13 := Lib.hid (x1_12.out.below hb13)
  have x1F_13 := Lib.hid (x1F_12.out.below hb13)
  have x2_13 := Lib.hid (x2_12.out.below hb13)
  have x2F_13 := Lib.hid (x2F_12.out.below hb13)
  have g0_13 := Lib.hid (g0_12.out.below hb13)
  have g0F_13 := Lib.hid (g0F_12.out.below hb13)
  have hz13 : (w12).heap.size ≤ w13.heap.size := hb13.size
  clear hb13 o13
  go_wp2_with fail
  refine (eqBerthS_same _ _ l0 _ x0_13.out S13.out).mono ?_
  rintro e w14 ⟨rfl, hb14⟩
  have B14 := Lib.hid (B13.out.trans (hb14.mono B13.out.size))
  have w0_14 := Lib.hid (w0_13.out.below hb14)
  have w0F_14 := Lib.hid (w0F_13.out.below hb14)
  have x0_14 := Lib.hid (x0_13.out.below hb14)
  have x0F_14 := Lib.hid (x0F_13.out.below hb14)
  have x1_14 := Lib.hid (x1_13.out.below hb14)
  have x1F_14 := Lib.hid (x1F_13.out.below hb14)
  have x2_14 := Lib.hid (x2_13.out.below hb14)
  have x2F_14 := Lib.hid (x2F_13.out.below hb14)
  have g0_14 := Lib.hid (g0_13.out.below hb14)
  have g0F_14 := Lib.hid (g0F_13.out.below hb14)
  have hz14 : (w13).heap.size ≤ w14.heap.size := hb14.size
  clear hb14
  -- if !eqShipS(x1, toShipS(aFleet)) {
  go_wp2_with fail
  refine (toShipS_any _ l1 _ (R1.out.below (BW.out.trans (B14.out.mono hs0)))).mono ?_
  rintro e w15 ⟨u15, rfl, o15, hb15⟩
  have S15 := Lib.hid (OwnShip.sl o15 (by omega))
  have RG15 := Lib.hid (own_range o15)
  have FR15 := Lib.hid (own_freeV o15)
  obtain ⟨D15, k15, rfl⟩ := own_form o15
  have B15 := Lib.hid (B14.out.trans (hb15.mono B14.out.size))
  have w0_15 := Lib.hid (w0_14.out.below hb15)
  have w0F_15 := Lib.hid (w0F_14.out.below hb15)
  have x0_15 := Lib.hid (x0_14.out.below hb15)
  have x0F_15 := Lib.hid (x0F_14.out.below hb15)
  have x1_15 := Lib.hid (x1_14.out.below hb15)
  have x1F_15 := Lib.hid (x1F_14.out.below hb15)
  have x2_15 := Lib.hid (x2_14.out.below hb15)
  have x2F_15 := Lib.hid (x2F_14.out.below hb15)
  have g0_15 := Lib.hid (g0_14.out.below hb15)
  have g0F_15 := Lib.hid (g0F_14.out.below hb15)
  have hz15 : (w14).heap.size ≤ w15.heap.size := hb15.size
  clear hb15 o15
  go_wp2_with fail
  refine (eqShipS_same _ _ l1 _ x1_15.out S15.out).mono ?_
  rintro e w16 ⟨rfl, hb16⟩
  have B16 := Lib.hid (B15.out.trans (hb16.mono B15.out.size))
  have w0_16 := Lib.hid (w0_15.out.below hb16)
  have w0F_16 := Lib.hid (w0F_15.out.below hb16)
  have x0_16 := Lib.hid (x0_15.out.below hb16)
  have x0F_16 := Lib.hid (x0F_15.out.below hb16)
  have x1_16 := Lib.hid (x1_15.out.below hb16)
  have x1F_16 := Lib.hid (x1F_15.out.below hb16)
  have x2_16 := Lib.hid (x2_15.out.below hb16)
  have x2F_16 := Lib.hid (x2F_15.out.below hb16)
  have g0_16 := Lib.hid (g0_15.out.below hb16)
  have g0F_16 := Lib.hid (g0F_15.out.below hb16)
  have hz16 : (w15).heap.size ≤ w16.heap.size := hb16.size
  clear hb16
  -- if !eqStayS(x2, toStayS(aAsks)) {
  go_wp2_with fail
  refine (toStayS_any _ l2 _ (R2.out.below (BW.out.trans (B16.out.mono hs0)))).mono ?_
  rintro e w17 ⟨u17, rfl, o17, hb17⟩
  have S17 := Lib.hid (OwnStay.sl o17 (by omega))
  have RG17 := Lib.hid (own_range o17)
  have FR17 := Lib.hid (own_freeV o17)
  obtain ⟨D17, k17, rfl⟩ := own_form o17
  have B17 := Lib.hid (B16.out.trans (hb17.mono B16.out.size))
  have w0_17 := Lib.hid (w0_16.out.below hb17)
  have w0F_17 := Lib.hid (w0F_16.out.below hb17)
  have x0_17 := Lib.hid (x0_16.out.below hb17)
  have x0F_17 := Lib.hid (x0F_16.out.below hb17)
  have x1_17 := Lib.hid (x1_16.out.below hb17)
  have x1F_17 := Lib.hid (x1F_16.out.below hb17)
  have x2_17 := Lib.hid (x2_16.out.below hb17)
  have x2F_17 := Lib.hid (x2F_16.out.below hb17)
  have g0_17 := Lib.hid (g0_16.out.below hb17)
  have g0F_17 := Lib.hid (g0F_16.out.below hb17)
  have hz17 : (w16).heap.size ≤ w17.heap.size := hb17.size
  clear hb17 o17
  go_wp2_with fail
  refine (eqStayS_same _ _ l2 _ x2_17.out S17.out).mono ?_
  rintro e w18 ⟨rfl, hb18⟩
  have B18 := Lib.hid (B17.out.trans (hb18.mono B17.out.size))
  have w0_18 := Lib.hid (w0_17.out.below hb18)
  have w0F_18 := Lib.hid (w0F_17.out.below hb18)
  have x0_18 := Lib.hid (x0_17.out.below hb18)
  have x0F_18 := Lib.hid (x0F_17.out.below hb18)
  have x1_18 := Lib.hid (x1_17.out.below hb18)
  have x1F_18 := Lib.hid (x1F_17.out.below hb18)
  have x2_18 := Lib.hid (x2_17.out.below hb18)
  have x2F_18 := Lib.hid (x2F_17.out.below hb18)
  have g0_18 := Lib.hid (g0_17.out.below hb18)
  have g0F_18 := Lib.hid (g0F_17.out.below hb18)
  have hz18 : (w17).heap.size ≤ w18.heap.size := hb18.size
  clear hb18
  -- k := 1
  -- k = markBerthS(x0, k)
  go_wp2_with fail
  refine (markBerthS_any _ l0 (1) _ x0_18.out (fun g hg => (x0F_18.out g hg).1) (by omega) (by omega) (by omega)).mono ?_
  rintro e w19 ⟨rfl, mm19, hg19⟩
  have ht19 := touch_grown hg19 RG8.out
  have B19 := Lib.hid (TouchR.below B18.out ht19 B18.out.size (by omega))
  have w0_19 := Lib.hid (SlOf.touch w0_18.out ht19 RG7.out (by omega))
  have w0F_19 := Lib.hid (FreeV.touch w0F_18.out ht19 RG7.out (by omega))
  have x1_19 := Lib.hid (SlOf.touch x1_18.out ht19 RG9.out (by omega))
  have x1F_19 := Lib.hid (FreeV.touch x1F_18.out ht19 RG9.out (by omega))
  have x2_19 := Lib.hid (SlOf.touch x2_18.out ht19 RG10.out (by omega))
  have x2F_19 := Lib.hid (FreeV.touch x2F_18.out ht19 RG10.out (by omega))
  have g0_19 := Lib.hid (SlOf.touch g0_18.out ht19 RG11.out (by omega))
  have g0F_19 := Lib.hid (FreeV.touch g0F_18.out ht19 RG11.out (by omega))
  have hz19 : (w18).heap.size ≤ w19.heap.size := ht19.size
  have MK_x0 := Lib.hid mm19
  clear ht19 hg19 mm19
  -- k = markShipS(x1, k)
  go_wp2_with fail
  refine (markShipS_any _ l1 (1 + (l0.length : Int) * 3) _ x1_19.out (fun g hg => (x1F_19.out g hg).1) (by omega) (by omega) (by omega)).mono ?_
  rintro e w20 ⟨rfl, mm20, hg20⟩
  have ht20 := touch_grown hg20 RG9.out
  have B20 := Lib.hid (TouchR.below B19.out ht20 B19.out.size (by omega))
  have w0_20 := Lib.hid (SlOf.touch w0_19.out ht20 RG7.out (by omega))
  have w0F_20 := Lib.hid (FreeV.touch w0F_19.out ht20 RG7.out (by omega))
  have x2_20 := Lib.hid (SlOf.touch x2_19.out ht20 RG10.out (by omega))
  have x2F_20 := Lib.hid (FreeV.touch x2F_19.out ht20 RG10.out (by omega))
  have g0_20 := Lib.hid (SlOf.touch g0_19.out ht20 RG11.out (by omega))
  have g0F_20 := Lib.hid (FreeV.touch g0F_19.out ht20 RG11.out (by omega))
  have mkx0_20 := Lib.hid (MarkedV.touch MK_x0.out ht20 RG8.out (by omega))
  have hz20 : (w19).heap.size ≤ w20.heap.size := ht20.size
  have MK_x1 := Lib.hid mm20
  clear ht20 hg20 mm20
  -- k = markStayS(x2, k)
  go_wp2_with fail
  refine (markStayS_any _ l2 (1 + (l0.length : Int) * 3 + (l1.length : Int) * 6) _ x2_20.out (fun g hg => (x2F_20.out g hg).1) (by omega) (by omega) (by omega)).mono ?_
  rintro e w21 ⟨rfl, mm21, hg21⟩
  have ht21 := touch_grown hg21 RG10.out
  have B21 := Lib.hid (TouchR.below B20.out ht21 B20.out.size (by omega))
  have w0_21 := Lib.hid (SlOf.touch w0_20.out ht21 RG7.out (by omega))
  have w0F_21 := Lib.hid (FreeV.touch w0F_20.out ht21 RG7.out (by omega))
  have g0_21 := Lib.hid (SlOf.touch g0_20.out ht21 RG11.out (by omega))
  have g0F_21 := Lib.hid (FreeV.touch g0F_20.out ht21 RG11.out (by omega))
  have mkx0_21 := Lib.hid (MarkedV.touch mkx0_20.out ht21 RG8.out (by omega))
  have mkx1_21 := Lib.hid (MarkedV.touch MK_x1.out ht21 RG9.out (by omega))
  have hz21 : (w20).heap.size ≤ w21.heap.size := ht21.size
  have MK_x2 := Lib.hid mm21
  clear ht21 hg21 mm21
  -- if k < 0 || !eqStayS(g0, w0) || g1 != w1 {
  go_wp2_with fail
  refine (eqStayS_same _ _ r0 _ g0_21.out w0_21.out).mono ?_
  rintro e w22 ⟨rfl, hb22⟩
  have B22 := Lib.hid (B21.out.trans (hb22.mono B21.out.size))
  have w0_22 := Lib.hid (w0_21.out.below hb22)
  have w0F_22 := Lib.hid (w0F_21.out.below hb22)
  have g0_22 := Lib.hid (g0_21.out.below hb22)
  have g0F_22 := Lib.hid (g0F_21.out.below hb22)
  have mkx0_22 := Lib.hid (mkx0_21.out.below hb22)
  have mkx1_22 := Lib.hid (mkx1_21.out.below hb22)
  have mkx2_22 := Lib.hid (MK_x2.out.below hb22)
  have hz22 : (w21).heap.size ≤ w22.heap.size := hb22.size
  clear hb22
  -- m := 1
  -- m = markStayS(g0, m)
  go_wp2_with fail
  refine (markStayS_any _ r0 (1) _ g0_22.out (fun g hg => (g0F_22.out g hg).1) (by omega) (by omega) (by omega)).mono ?_
  rintro e w23 ⟨rfl, mm23, hg23⟩
  have ht23 := touch_grown hg23 RG11.out
  have B23 := Lib.hid (TouchR.below B22.out ht23 B22.out.size (by omega))
  have w0_23 := Lib.hid (SlOf.touch w0_22.out ht23 RG7.out (by omega))
  have w0F_23 := Lib.hid (FreeV.touch w0F_22.out ht23 RG7.out (by omega))
  have mkx0_23 := Lib.hid (MarkedV.touch mkx0_22.out ht23 RG8.out (by omega))
  have mkx1_23 := Lib.hid (MarkedV.touch mkx1_22.out ht23 RG9.out (by omega))
  have mkx2_23 := Lib.hid (MarkedV.touch mkx2_22.out ht23 RG10.out (by omega))
  have hz23 : (w22).heap.size ≤ w23.heap.size := ht23.size
  have MK_g0 := Lib.hid mm23
  clear ht23 hg23 mm23
  -- q := 1
  -- q = heldStayS(g0, q)
  go_wp2_with fail
  refine (heldStayS_any _ r0.length D11 k11 rfl (1) _ MK_g0.out (by omega) (by omega) (by omega)).mono ?_
  rintro e w24 ⟨rfl, hb24⟩
  have B24 := Lib.hid (B23.out.trans (hb24.mono B23.out.size))
  have w0_24 := Lib.hid (w0_23.out.below hb24)
  have w0F_24 := Lib.hid (w0F_23.out.below hb24)
  have mkx0_24 := Lib.hid (mkx0_23.out.below hb24)
  have mkx1_24 := Lib.hid (mkx1_23.out.below hb24)
  have mkx2_24 := Lib.hid (mkx2_23.out.below hb24)
  have mkg0_24 := Lib.hid (MK_g0.out.below hb24)
  have hz24 : (w23).heap.size ≤ w24.heap.size := hb24.size
  clear hb24
  -- if q < 0 {
  -- if q != m {
  -- h0, h1 := impl.AllotBerths(toBerthS(aBerths), toShipS(aFleet), toStayS(aAsks))
  go_wp2_with fail
  refine (toBerthS_any _ l0 _ (R0.out.below (BW.out.trans (B24.out.mono hs0)))).mono ?_
  rintro e w25 ⟨u25, rfl, o25, hb25⟩
  have S25 := Lib.hid (OwnBerth.sl o25 (by omega))
  have RG25 := Lib.hid (own_range o25)
  have FR25 := Lib.hid (own_freeV o25)
  obtain ⟨D25, k25, rfl⟩ := own_form o25
  have B25 := Lib.hid (B24.out.trans (hb25.mono B24.out.size))
  have w0_25 := Lib.hid (w0_24.out.below hb25)
  have w0F_25 := Lib.hid (w0F_24.out.below hb25)
  have mkx0_25 := Lib.hid (mkx0_24.out.below hb25)
  have mkx1_25 := Lib.hid (mkx1_24.out.below hb25)
  have mkx2_25 := Lib.hid (mkx2_24.out.below hb25)
  have mkg0_25 := Lib.hid (mkg0_24.out.below hb25)
  have hz25 : (w24).heap.size ≤ w25.heap.size := hb25.size
  clear hb25 o25
  go_wp2_with fail
  refine (toShipS_any _ l1 _ (R1.out.below (BW.out.trans (B25.out.mono hs0)))).mono ?_
  rintro e w26 ⟨u26, rfl, o26, hb26⟩
  have S26 := Lib.hid (OwnShip.sl o26 (by omega))
  have RG26 := Lib.hid (own_range o26)
  have FR26 := Lib.hid (own_freeV o26)
  obtain ⟨D26, k26, rfl⟩ := own_form o26
  have B26 := Lib.hid (B25.out.trans (hb26.mono B25.out.size))
  have w0_26 := Lib.hid (w0_25.out.below hb26)
  have w0F_26 := Lib.hid (w0F_25.out.below hb26)
  have mkx0_26 := Lib.hid (mkx0_25.out.below hb26)
  have mkx1_26 := Lib.hid (mkx1_25.out.below hb26)
  have mkx2_26 := Lib.hid (mkx2_25.out.below hb26)
  have mkg0_26 := Lib.hid (mkg0_25.out.below hb26)
  have t25_26 := Lib.hid (S25.out.below hb26)
  have hz26 : (w25).heap.size ≤ w26.heap.size := hb26.size
  clear hb26 o26
  go_wp2_with fail
  refine (toStayS_any _ l2 _ (R2.out.below (BW.out.trans (B26.out.mono hs0)))).mono ?_
  rintro e w27 ⟨u27, rfl, o27, hb27⟩
  have S27 := Lib.hid (OwnStay.sl o27 (by omega))
  have RG27 := Lib.hid (own_range o27)
  have FR27 := Lib.hid (own_freeV o27)
  obtain ⟨D27, k27, rfl⟩ := own_form o27
  have B27 := Lib.hid (B26.out.trans (hb27.mono B26.out.size))
  have w0_27 := Lib.hid (w0_26.out.below hb27)
  have w0F_27 := Lib.hid (w0F_26.out.below hb27)
  have mkx0_27 := Lib.hid (mkx0_26.out.below hb27)
  have mkx1_27 := Lib.hid (mkx1_26.out.below hb27)
  have mkx2_27 := Lib.hid (mkx2_26.out.below hb27)
  have mkg0_27 := Lib.hid (mkg0_26.out.below hb27)
  have t25_27 := Lib.hid (t25_26.out.below hb27)
  have t26_27 := Lib.hid (S26.out.below hb27)
  have hz27 : (w26).heap.size ≤ w27.heap.size := hb27.size
  clear hb27 o27
  go_wp2_with fail
  refine (implAllotBerths _ l0 _ l1 _ l2 _ t25_27.out t26_27.out S27.out FF0.out FF1.out).mono ?_
  intro e w28 hN
  unfold NewAllot at hN
  rw [HR1.out, HR0.out] at hN
  obtain ⟨u28, rfl, o28, hb28⟩ := hN
  have S28 := Lib.hid (OwnStay.sl o28 (by omega))
  have RG28 := Lib.hid (own_range o28)
  have FR28 := Lib.hid (own_freeV o28)
  obtain ⟨D28, k28, rfl⟩ := own_form o28
  have B28 := Lib.hid (B27.out.trans (hb28.mono B27.out.size))
  have w0_28 := Lib.hid (w0_27.out.below hb28)
  have w0F_28 := Lib.hid (w0F_27.out.below hb28)
  have mkx0_28 := Lib.hid (mkx0_27.out.below hb28)
  have mkx1_28 := Lib.hid (mkx1_27.out.below hb28)
  have mkx2_28 := Lib.hid (mkx2_27.out.below hb28)
  have mkg0_28 := Lib.hid (mkg0_27.out.below hb28)
  have t25_28 := Lib.hid (t25_27.out.below hb28)
  have t26_28 := Lib.hid (t26_27.out.below hb28)
  have t27_28 := Lib.hid (S27.out.below hb28)
  have hz28 : (w27).heap.size ≤ w28.heap.size := hb28.size
  clear o28
  clear hb28 
  -- if !eqStayS(h0, w0) || h1 != w1 {
  go_wp2_with fail
  refine (eqStayS_same _ _ r0 _ S28.out w0_28.out).mono ?_
  rintro e w29 ⟨rfl, hb29⟩
  have B29 := Lib.hid (B28.out.trans (hb29.mono B28.out.size))
  have w0_29 := Lib.hid (w0_28.out.below hb29)
  have w0F_29 := Lib.hid (w0F_28.out.below hb29)
  have mkx0_29 := Lib.hid (mkx0_28.out.below hb29)
  have mkx1_29 := Lib.hid (mkx1_28.out.below hb29)
  have mkx2_29 := Lib.hid (mkx2_28.out.below hb29)
  have mkg0_29 := Lib.hid (mkg0_28.out.below hb29)
  have h0_29 := Lib.hid (S28.out.below hb29)
  have h0F_29 := Lib.hid (FR28.out.below hb29)
  have hz29 : (w28).heap.size ≤ w29.heap.size := hb29.size
  clear hb29
  -- q = 1
  -- q = heldStayS(g0, q)
  go_wp2_with fail
  refine (heldStayS_any _ r0.length D11 k11 rfl (1) _ mkg0_29.out (by omega) (by omega) (by omega)).mono ?_
  rintro e w30 ⟨rfl, hb30⟩
  have B30 := Lib.hid (B29.out.trans (hb30.mono B29.out.size))
  have w0_30 := Lib.hid (w0_29.out.below hb30)
  have w0F_30 := Lib.hid (w0F_29.out.below hb30)
  have mkx0_30 := Lib.hid (mkx0_29.out.below hb30)
  have mkx1_30 := Lib.hid (mkx1_29.out.below hb30)
  have mkx2_30 := Lib.hid (mkx2_29.out.below hb30)
  have mkg0_30 := Lib.hid (mkg0_29.out.below hb30)
  have h0_30 := Lib.hid (h0_29.out.below hb30)
  have h0F_30 := Lib.hid (h0F_29.out.below hb30)
  have hz30 : (w29).heap.size ≤ w30.heap.size := hb30.size
  clear hb30
  -- if q < 0 {
  -- if q != m {
  -- return true
  go_wp2
  go_ret
  exact ⟨rfl, BW.out.trans (B30.out.mono hs0)⟩
set_option maxRecDepth 100000 in
theorem lifted (os : Os) (started : os.Started) (H : Type) (enc : TypeId × Value → H) :
    ReturnsInHanded {} Try.checked os 9 .any (Rows.fnExactAllotBerthsSpec.pre6 enc Try.prog Try.f9 Rows.fnExactAllotBerthsRow.domain false) (Rows.fnExactAllotBerthsSpec.post enc Try.prog Try.f9 false true false false) := by
  refine returnsInHanded_of_change (C := Try.checked) own started (by kernel_rfl) Try.func9
    (ChangeSpec.witness6 (enc := enc) (C := Try.checked) false ⟨#[], #[.slice none 0 0, .slice none 0 0, .slice none 0 0], []⟩ 8 (by kernel_rfl) (by kernel_rfl) (by kernel_rfl) (by kernel_rfl)) ?_
  intro W base args ds gs before hval0 hW _ _
  have hval : ∀ (j : Nat) t v, Try.f9.params[j]? = some t → args[j]? = some v → Value.okWide Try.prog W .any base t v := hval0
  have hW' := hW
  obtain ⟨p, q, hA0, hV, rfl, _, _⟩ := hW
  have hA : DataW.TrodAll enc Try.prog W 0 (fun _ => true) true Try.f9.params.toList args.toList ds p := hA0
  rw [Try.params9] at hA hval
  obtain ⟨v0, vs0, d0, ds0, p0, q0, hargs, rfl, rfl, h0, r0⟩ := trodAll_cons hA
  obtain ⟨v1, vs1, d1, ds1, p1, q1, rfl, rfl, rfl, h1, r1⟩ := trodAll_cons r0
  obtain ⟨v2, vs2, d2, ds2, p2, q2, rfl, rfl, rfl, h2, r2⟩ := trodAll_cons r1
  obtain ⟨rfl, rfl, rfl⟩ := trodAll_nil r2
  obtain rfl : args = #[v0, v1, v2] := by cases args; simp_all
  obtain ⟨A0, c0, l0, rfl, g0⟩ := open_berths_arg (hval 0 45 v0 rfl rfl) h0
  obtain ⟨A1, c1, l1, rfl, g1⟩ := open_ships_arg (hval 1 57 v1 rfl rfl) h1
  obtain ⟨A2, c2, l2, rfl, g2⟩ := open_stays_arg (hval 2 58 v2 rfl rfl) h2
  refine (law A0 c0 l0 A1 c1 l1 A2 c2 l2 W g0 g1 g2).mono fun e W' ⟨he, hb⟩ => ⟨_, he, ?_⟩
  exact law_post laidOut (by kernel_rfl) rfl (by kernel_rfl) Try.underlying4 rfl rfl rfl hW' hb
theorem holds : Rows.FnExactAllotBerthsSaid :=
  OpenClaim.holds_of_wide 9 Try.f9 rfl rfl rfl rfl rfl rfl rfl ⟨rfl, rfl, rfl, rfl, rfl⟩ rfl rfl rfl rfl rfl (by kernel_rfl) Try.func9 (by kernel_rfl)
    (of_decide_eq_true (by kernel_rfl)) (by unfold Func.isWrapper; first | (rw [if_pos (by decide +kernel)]; kernel_rfl) | (rw [if_neg (by decide +kernel)]; exact ⟨rfl, rfl⟩))
    (fun os started H enc _ => lifted os started H enc)
end Go.Proofs.Ytghjfcnboocmjaa.exactAllotBerths
