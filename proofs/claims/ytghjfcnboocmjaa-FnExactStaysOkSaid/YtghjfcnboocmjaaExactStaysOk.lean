
/- The exact law of StaysOk holds for all arguments: impl.StaysOk answers as its model, and the arguments read as before. No condition. -/
import Derived.Test.YtghjfcnboocmjaaRows
import Derived.Test.YtghjfcnboocmjaaBa0
import Derived.Test.YtghjfcnboocmjaaBa11
import Derived.Test.YtghjfcnboocmjaaBa13
import Derived.Test.YtghjfcnboocmjaaBa3
import Derived.Test.YtghjfcnboocmjaaBa7
import Derived.Test.YtghjfcnboocmjaaBa5
import Derived.Test.YtghjfcnboocmjaaBa4
import Derived.Deep.RegionHeld3
import Derived.Deep.DeepCutAuto
namespace Go.Proofs.Ytghjfcnboocmjaa.exactStaysOk
open Go.ChangeShapes Go.WideShapes Go.ChangeAt Go.RowKit
set_option maxRecDepth 100000
theorem own : ownKnob Try.prog.godebug = none := by kernel_rfl
theorem laidOut : laidOutB Try.prog = true := by kernel_rfl
set_option maxHeartbeats 16000000 in
theorem law (A0 : Option Addr) (c0 : Nat) (l0 : List BerthD) (A1 : Option Addr) (c1 : Nat) (l1 : List ShipD) (A2 : Option Addr) (c2 : Nat) (l2 : List StayD) (w : World) (hin0 : l0.length ≤ maxLen ∧ (l0.length ≤ 1000000000 → SlBerth w (.slice A0 l0.length c0) l0) ∧ ∀ x ∈ l0, BerthD.wf x) (hin1 : l1.length ≤ maxLen ∧ (l1.length ≤ 1000000000 → SlShip w (.slice A1 l1.length c1) l1) ∧ ∀ x ∈ l1, ShipD.wf x) (hin2 : l2.length ≤ maxLen ∧ (l2.length ≤ 1000000000 → SlStay w (.slice A2 l2.length c2) l2) ∧ ∀ x ∈ l2, StayD.wf x) :
    Calls Try.prog 6 #[.slice A0 l0.length c0, .slice A1 l1.length c1, .slice A2 l2.length c2] w fun e w' => e = .returned (.bool true) ∧ Below w.heap.size w w' := by
  obtain ⟨m0, s0, f0⟩ := hin0
  unfold maxLen at m0
  have SS0 := Lib.hid s0
  have FF0 := Lib.hid f0
  clear s0 f0
  obtain ⟨m1, s1, f1⟩ := hin1
  unfold maxLen at m1
  have SS1 := Lib.hid s1
  have FF1 := Lib.hid f1
  clear s1 f1
  obtain ⟨m2, s2, f2⟩ := hin2
  unfold maxLen at m2
  have SS2 := Lib.hid s2
  have FF2 := Lib.hid f2
  clear s2 f2
  have HB0 : Below w.heap.size w w := Below.refl _ _
  have BW := Lib.hid HB0
  clear HB0
  go_enter Try.func6, Try.ntmps6
  have B0 := Lib.hid (Below.refl (w).heap.size w)
  have hs0 : w.heap.size ≤ (w).heap.size := BW.out.size
  obtain ⟨r0, hr0⟩ : ∃ r0, (staysB l0 l1 l2) = r0 := ⟨_, rfl⟩
  have HR0 := Lib.hid hr0
  clear hr0
  -- left := 1 << 20
  -- left = szBerthS(aBerths, left)
  have hl1 : 0 ≤ (1048576 : Int) := by omega
  have hll1 : (1048576 : Int) ≤ 1048576 := by omega
  go_wp2_with fail
  refine (szBerthS_any A0 l0 c0 _ (by omega) (fun h => (SS0.out h).below (BW.out.trans (B0.out.mono hs0))) (fun x hx => wfszBerth (FF0.out x hx)) (1048576) hl1 hll1).mono ?_
  rintro e w1 ⟨rfl, hb1⟩
  have B1 := Lib.hid (B0.out.trans (hb1.mono B0.out.size))
  have hz1 : (w).heap.size ≤ w1.heap.size := hb1.size
  clear hb1 
  have ps1 := bulkBerth_pos l0
  by_cases neg1 : (1048576 : Int) < ((l0.length : Int) + bulkBerth l0)
  · rw [leftOf_no neg1]
    go_wp2
    go_ret
    exact ⟨rfl, BW.out.trans (B1.out.mono hs0)⟩
  rw [leftOf_yes neg1]
  have ne1 : ¬ (1048576 - ((l0.length : Int) + bulkBerth l0) : Int) < 0 := by omega
  have R0 := Lib.hid (SS0.out (by omega))
  clear SS0
  -- left = szShipS(aFleet, left)
  have hl2 : 0 ≤ (1048576 - ((l0.length : Int) + bulkBerth l0) : Int) := by omega
  have hll2 : (1048576 - ((l0.length : Int) + bulkBerth l0) : Int) ≤ 1048576 := by omega
  go_wp2_with fail
  refine (szShipS_any A1 l1 c1 _ (by omega) (fun h => (SS1.out h).below (BW.out.trans (B1.out.mono hs0))) (fun x hx => wfszShip (FF1.out x hx)) (1048576 - ((l0.length : Int) + bulkBerth l0)) hl2 hll2).mono ?_
  rintro e w2 ⟨rfl, hb2⟩
  have B2 := Lib.hid (B1.out.trans (hb2.mono B1.out.size))
  have hz2 : (w1).heap.size ≤ w2.heap.size := hb2.size
  clear hb2 
  have ps2 := bulkShip_pos l1
  by_cases neg2 : (1048576 - ((l0.length : Int) + bulkBerth l0) : Int) < ((l1.length : Int) + bulkShip l1)
  · rw [leftOf_no neg2]
    go_wp2
    go_ret
    exact ⟨rfl, BW.out.trans (B2.out.mono hs0)⟩
  rw [leftOf_yes neg2]
  have ne2 : ¬ (1048576 - ((l0.length : Int) + bulkBerth l0) - ((l1.length : Int) + bulkShip l1) : Int) < 0 := by omega
  have R1 := Lib.hid (SS1.out (by omega))
  clear SS1
  -- left = szStayS(aStays, left)
  have hl3 : 0 ≤ (1048576 - ((l0.length : Int) + bulkBerth l0) - ((l1.length : Int) + bulkShip l1) : Int) := by omega
  have hll3 : (1048576 - ((l0.length : Int) + bulkBerth l0) - ((l1.length : Int) + bulkShip l1) : Int) ≤ 1048576 := by omega
  go_wp2_with fail
  refine (szStayS_any A2 l2 c2 _ (by omega) (fun h => (SS2.out h).below (BW.out.trans (B2.out.mono hs0))) (1048576 - ((l0.length : Int) + bulkBerth l0) - ((l1.length : Int) + bulkShip l1)) hl3 hll3).mono ?_
  rintro e w3 ⟨rfl, hb3⟩
  have B3 := Lib.hid (B2.out.trans (hb3.mono B2.out.size))
  have hz3 : (w2).heap.size ≤ w3.heap.size := hb3.size
  clear hb3 
  have ps3 := bulkStay_pos l2
  by_cases neg3 : (1048576 - ((l0.length : Int) + bulkBerth l0) - ((l1.length : Int) + bulkShip l1) : Int) < ((l2.length : Int) + bulkStay l2)
  · rw [leftOf_no neg3]
    go_wp2
    go_ret
    exact ⟨rfl, BW.out.trans (B3.out.mono hs0)⟩
  rw [leftOf_yes neg3]
  have ne3 : ¬ (1048576 - ((l0.length : Int) + bulkBerth l0) - ((l1.length : Int) + bulkShip l1) - ((l2.length : Int) + bulkStay l2) : Int) < 0 := by omega
  have R2 := Lib.hid (SS2.out (by omega))
  clear SS2
  -- w0 := spec.StaysOk(toBerthS(aBerths), toShipS(aFleet), toStayS(aStays))
  go_wp2_with fail
  refine (toBerthS_any _ l0 _ (R0.out.below (BW.out.trans (B3.out.mono hs0)))).mono ?_
  rintro e w4 ⟨u4, rfl, o4, hb4⟩
  have S4 := Lib.hid (OwnBerth.sl o4 (by omega))
  have RG4 := Lib.hid (own_range o4)
  have FR4 := Lib.hid (own_freeV o4)
  obtain ⟨D4, k4, rfl⟩ := own_form o4
  have B4 := Lib.hid (B3.out.trans (hb4.mono B3.out.size))
  have hz4 : (w3).heap.size ≤ w4.heap.size := hb4.size
  clear hb4 o4
  go_wp2_with fail
  refine (toShipS_any _ l1 _ (R1.out.below (BW.out.trans (B4.out.mono hs0)))).mono ?_
  rintro e w5 ⟨u5, rfl, o5, hb5⟩
  have S5 := Lib.hid (OwnShip.sl o5 (by omega))
  have RG5 := Lib.hid (own_range o5)
  have FR5 := Lib.hid (own_freeV o5)
  obtain ⟨D5, k5, rfl⟩ := own_form o5
  have B5 := Lib.hid (B4.out.trans (hb5.mono B4.out.size))
  have t4_5 := Lib.hid (S4.out.below hb5)
  have hz5 : (w4).heap.size ≤ w5.heap.size := hb5.size
  clear hb5 o5
  go_wp2_with fail
  refine (toStayS_any _ l2 _ (R2.out.below (BW.out.trans (B5.out.mono hs0)))).mono ?_
  rintro e w6 ⟨u6, rfl, o6, hb6⟩
  have S6 := Lib.hid (OwnStay.sl o6 (by omega))
  have RG6 := Lib.hid (own_range o6)
  have FR6 := Lib.hid (own_freeV o6)
  obtain ⟨D6, k6, rfl⟩ := own_form o6
  have B6 := Lib.hid (B5.out.trans (hb6.mono B5.out.size))
  have t4_6 := Lib.hid (t4_5.out.below hb6)
  have t5_6 := Lib.hid (S5.out.below hb6)
  have hz6 : (w5).heap.size ≤ w6.heap.size := hb6.size
  clear hb6 o6
  go_wp2_with fail
  refine (specStaysOk _ l0 _ l1 _ l2 _ t4_6.out t5_6.out S6.out FF0.out FF1.out).mono ?_
  rw [HR0.out]
  rintro e w7 ⟨rfl, hb7⟩
  have B7 := Lib.hid (B6.out.trans (hb7.mono B6.out.size))
  have t4_7 := Lib.hid (t4_6.out.below hb7)
  have t5_7 := Lib.hid (t5_6.out.below hb7)
  have t6_7 := Lib.hid (S6.out.below hb7)
  have hz7 : (w6).heap.size ≤ w7.heap.size := hb7.size
  clear hb7 
  -- x0 := toBerthS(aBerths)
  go_wp2_with fail
  refine (toBerthS_any _ l0 _ (R0.out.below (BW.out.trans (B7.out.mono hs0)))).mono ?_
  rintro e w8 ⟨u8, rfl, o8, hb8⟩
  have S8 := Lib.hid (OwnBerth.sl o8 (by omega))
  have RG8 := Lib.hid (own_range o8)
  have FR8 := Lib.hid (own_freeV o8)
  obtain ⟨D8, k8, rfl⟩ := own_form o8
  have B8 := Lib.hid (B7.out.trans (hb8.mono B7.out.size))
  have hz8 : (w7).heap.size ≤ w8.heap.size := hb8.size
  clear hb8 o8
  -- x1 := toShipS(aFleet)
  go_wp2_with fail
  refine (toShipS_any _ l1 _ (R1.out.below (BW.out.trans (B8.out.mono hs0)))).mono ?_
  rintro e w9 ⟨u9, rfl, o9, hb9⟩
  have S9 := Lib.hid (OwnShip.sl o9 (by omega))
  have RG9 := Lib.hid (own_range o9)
  have FR9 := Lib.hid (own_freeV o9)
  obtain ⟨D9, k9, rfl⟩ := own_form o9
  have B9 := Lib.hid (B8.out.trans (hb9.mono B8.out.size))
  have x0_9 := Lib.hid (S8.out.below hb9)
  have x0F_9 := Lib.hid (FR8.out.below hb9)
  have hz9 : (w8).heap.size ≤ w9.heap.size := hb9.size
  clear hb9 o9
  -- x2 := toStayS(aStays)
  go_wp2_with fail
  refine (toStayS_any _ l2 _ (R2.out.below (BW.out.trans (B9.out.mono hs0)))).mono ?_
  rintro e w10 ⟨u10, rfl, o10, hb10⟩
  have S10 := Lib.hid (OwnStay.sl o10 (by omega))
  have RG10 := Lib.hid (own_range o10)
  have FR10 := Lib.hid (own_freeV o10)
  obtain ⟨D10, k10, rfl⟩ := own_form o10
  have B10 := Lib.hid (B9.out.trans (hb10.mono B9.out.size))
  have x0_10 := Lib.hid (x0_9.out.below hb10)
  have x0F_10 := Lib.hid (x0F_9.out.below hb10)
  have x1_10 := Lib.hid (S9.out.below hb10)
  have x1F_10 := Lib.hid (FR9.out.below hb10)
  have hz10 : (w9).heap.size ≤ w10.heap.size := hb10.size
  clear hb10 o10
  -- g0 := impl.StaysOk(x0, x1, x2)
  go_wp2_with fail
  refine (implStaysOk _ l0 _ l1 _ l2 _ x0_10.out x1_10.out S10.out FF0.out FF1.out).mono ?_
  rw [HR0.out]
  rintro e w11 ⟨rfl, hb11⟩
  have B11 := Lib.hid (B10.out.trans (hb11.mono B10.out.size))
  have x0_11 := Lib.hid (x0_10.out.below hb11)
  have x0F_11 := Lib.hid (x0F_10.out.below hb11)
  have x1_11 := Lib.hid (x1_10.out.below hb11)
  have x1F_11 := Lib.hid (x1F_10.out.below hb11)
  have x2_11 := Lib.hid (S10.out.below hb11)
  have x2F_11 := Lib.hid (FR10.out.below hb11)
  have hz11 : (w10).heap.size ≤ w11.heap.size := hb11.size
  clear hb11 
  -- if g0 != w0 {
  -- if !eqBerthS(x0, toBerthS(aBerths)) {
  go_wp2_with fail
  refine (toBerthS_any _ l0 _ (R0.out.below (BW.out.trans (B11.out.mono hs0)))).mono ?_
  rintro e w12 ⟨u12, rfl, o12, hb12⟩
  have S12 := Lib.hid (OwnBerth.sl o12 (by omega))
  have RG12 := Lib.hid (own_range o12)
  have FR12 := Lib.hid (own_freeV o12)
  obtain ⟨D12, k12, rfl⟩ := own_form o12
  have B12 := Lib.hid (B11.out.trans (hb12.mono B11.out.size))
  have x0_12 := Lib.hid (x0_11.out.below hb12)
  have x0F_12 := Lib.hid (x0F_11.out.below hb12)
  have x1_12 := Lib.hid (x1_11.out.below hb12)
  have x1F_12 := Lib.hid (x1F_11.out.below hb12)
  have x2_12 := Lib.hid (x2_11.out.below hb12)
  have x2F_12 := Lib.hid (x2F_11.out.below hb12)
  have hz12 : (w11).heap.size ≤ w12.heap.size := hb12.size
  clear hb12 o12
  go_wp2_with fail
  refine (eqBerthS_same _ _ l0 _ x0_12.out S12.out).mono ?_
  rintro e w13 ⟨rfl, hb13⟩
  have B13 := Lib.hid (B12.out.trans (hb13.mono B12.out.size))
  have x0_13 := Lib.hid (x0_12.out.below hb13)
  have x0F_13 := Lib.hid (x0F_12.out.below hb13)
  have x1_13 := Lib.hid (x1_12.out.below hb13)
  have x1F_13 := Lib.hid (x1F_12.out.below hb13)
  have x2_13 := Lib.hid (x2_12.out.below hb13)
  have x2F_13 := Lib.hid (x2F_12.out.below hb13)
  have hz13 : (w12).heap.size ≤ w13.heap.size := hb13.size
  clear hb13
  -- if !eqShipS(x1, toShipS(aFleet)) {
  go_wp2_with fail
  refine (toShipS_any _ l1 _ (R1.out.below (BW.out.trans (B13.out.mono hs0)))).mono ?_
  rintro e w14 ⟨u14, rfl, o14, hb14⟩
  have S14 := Lib.hid (OwnShip.sl o14 (by omega))
  have RG14 := Lib.hid (own_range o14)
  have FR14 := Lib.hid (own_freeV o14)
  obtain ⟨D14, k14, rfl⟩ := own_form o14
  have B14 := Lib.hid (B13.out.trans (hb14.mono B13.out.size))
  have x0_14 := Lib.hid (x0_13.out.below hb14)
  have x0F_14 := Lib.hid (x0F_13.out.below hb14)
  have x1_14 := Lib.hid (x1_13.out.below hb14)
  have x1F_14 := Lib.hid (x1F_13.out.below hb14)
  have x2_14 := Lib.hid (x2_13.out.below hb14)
  have x2F_14 := Lib.hid (x2F_13.out.below hb14)
  have hz14 : (w13).heap.size ≤ w14.heap.size := hb14.size
  clear hb14 o14
  go_wp2_with fail
  refine (eqShipS_same _ _ l1 _ x1_14.out S14.out).mono ?_
  rintro e w15 ⟨rfl, hb15⟩
  have B15 := Lib.hid (B14.out.trans (hb15.mono B14.out.size))
  have x0_15 := Lib.hid (x0_14.out.below hb15)
  have x0F_15 := Lib.hid (x0F_14.out.below hb15)
  have x1_15 := Lib.hid (x1_14.out.below hb15)
  have x1F_15 := Lib.hid (x1F_14.out.below hb15)
  have x2_15 := Lib.hid (x2_14.out.below hb15)
  have x2F_15 := Lib.hid (x2F_14.out.below hb15)
  have hz15 : (w14).heap.size ≤ w15.heap.size := hb15.size
  clear hb15
  -- if !eqStayS(x2, toStayS(aStays)) {
  go_wp2_with fail
  refine (toStayS_any _ l2 _ (R2.out.below (BW.out.trans (B15.out.mono hs0)))).mono ?_
  rintro e w16 ⟨u16, rfl, o16, hb16⟩
  have S16 := Lib.hid (OwnStay.sl o16 (by omega))
  have RG16 := Lib.hid (own_range o16)
  have FR16 := Lib.hid (own_freeV o16)
  obtain ⟨D16, k16, rfl⟩ := own_form o16
  have B16 := Lib.hid (B15.out.trans (hb16.mono B15.out.size))
  have x0_16 := Lib.hid (x0_15.out.below hb16)
  have x0F_16 := Lib.hid (x0F_15.out.below hb16)
  have x1_16 := Lib.hid (x1_15.out.below hb16)
  have x1F_16 := Lib.hid (x1F_15.out.below hb16)
  have x2_16 := Lib.hid (x2_15.out.below hb16)
  have x2F_16 := Lib.hid (x2F_15.out.below hb16)
  have hz16 : (w15).heap.size ≤ w16.heap.size := hb16.size
  clear hb16 o16
  go_wp2_with fail
  refine (eqStayS_same _ _ l2 _ x2_16.out S16.out).mono ?_
  rintro e w17 ⟨rfl, hb17⟩
  have B17 := Lib.hid (B16.out.trans (hb17.mono B16.out.size))
  have x0_17 := Lib.hid (x0_16.out.below hb17)
  have x0F_17 := Lib.hid (x0F_16.out.below hb17)
  have x1_17 := Lib.hid (x1_16.out.below hb17)
  have x1F_17 := Lib.hid (x1F_16.out.below hb17)
  have x2_17 := Lib.hid (x2_16.out.below hb17)
  have x2F_17 := Lib.hid (x2F_16.out.below hb17)
  have hz17 : (w16).heap.size ≤ w17.heap.size := hb17.size
  clear hb17
  -- return true
  go_wp2
  go_ret
  exact ⟨rfl, BW.out.trans (B17.out.mono hs0)⟩
set_option maxRecDepth 100000 in
theorem lifted (os : Os) (started : os.Started) (H : Type) (enc : TypeId × Value → H) :
    ReturnsInHanded {} Try.checked os 6 .any (Rows.fnExactStaysOkSpec.pre6 enc Try.prog Try.f6 Rows.fnExactStaysOkRow.domain false) (Rows.fnExactStaysOkSpec.post enc Try.prog Try.f6 false true false false) := by
  refine returnsInHanded_of_change (C := Try.checked) own started (by kernel_rfl) Try.func6
    (ChangeSpec.witness6 (enc := enc) (C := Try.checked) false ⟨#[], #[.slice none 0 0, .slice none 0 0, .slice none 0 0], []⟩ 8 (by kernel_rfl) (by kernel_rfl) (by kernel_rfl) (by kernel_rfl)) ?_
  intro W base args ds gs before hval0 hW _ _
  have hval : ∀ (j : Nat) t v, Try.f6.params[j]? = some t → args[j]? = some v → Value.okWide Try.prog W .any base t v := hval0
  have hW' := hW
  obtain ⟨p, q, hA0, hV, rfl, _, _⟩ := hW
  have hA : DataW.TrodAll enc Try.prog W 0 (fun _ => true) true Try.f6.params.toList args.toList ds p := hA0
  rw [Try.params6] at hA hval
  obtain ⟨v0, vs0, d0, ds0, p0, q0, hargs, rfl, rfl, h0, r0⟩ := trodAll_cons hA
  obtain ⟨v1, vs1, d1, ds1, p1, q1, rfl, rfl, rfl, h1, r1⟩ := trodAll_cons r0
  obtain ⟨v2, vs2, d2, ds2, p2, q2, rfl, rfl, rfl, h2, r2⟩ := trodAll_cons r1
  obtain ⟨rfl, rfl, rfl⟩ := trodAll_nil r2
  obtain rfl : args = #[v0, v1, v2] := by cases args; simp_all
  obtain ⟨A0, c0, l0, rfl, g0⟩ := open_berths_arg (hval 0 45 v0 rfl rfl) h0
  obtain ⟨A1, c1, l1, rfl, g1⟩ := open_ships_arg (hval 1 57 v1 rfl rfl) h1
  obtain ⟨A2, c2, l2, rfl, g2⟩ := open_stays_arg (hval 2 58 v2 rfl rfl) h2
  refine (law A0 c0 l0 A1 c1 l1 A2 c2 l2 W g0 g1 g2).mono fun e W' ⟨he, hb⟩ => ⟨_, he, ?_⟩
  exact law_post laidOut (by kernel_rfl) rfl (by kernel_rfl) Try.underlying4 rfl rfl rfl hW' hb
theorem holds : Rows.FnExactStaysOkSaid :=
  OpenClaim.holds_of_wide 6 Try.f6 rfl rfl rfl rfl rfl rfl rfl ⟨rfl, rfl, rfl, rfl, rfl⟩ rfl rfl rfl rfl rfl (by kernel_rfl) Try.func6 (by kernel_rfl)
    (of_decide_eq_true (by kernel_rfl)) (by unfold Func.isWrapper; first | (rw [if_pos (by decide +kernel)]; kernel_rfl) | (rw [if_neg (by decide +kernel)]; exact ⟨rfl, rfl⟩))
    (fun os started H enc _ => lifted os started H enc)
end Go.Proofs.Ytghjfcnboocmjaa.exactStaysOk
