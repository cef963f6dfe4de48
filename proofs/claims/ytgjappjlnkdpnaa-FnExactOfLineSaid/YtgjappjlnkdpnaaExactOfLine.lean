
/- The exact law of OfLine holds for all arguments: impl.OfLine answers as its model, its answer owns its memory, and the arguments read as before. No condition. -/
import Derived.Test.YtgjappjlnkdpnaaRows
import Derived.Test.YtgjappjlnkdpnaaKit
import Derived.Test.YtgjappjlnkdpnaaFleetFns
import Derived.Test.YtgjappjlnkdpnaaShipsArg
import Derived.Test.YtgjappjlnkdpnaaInts
import Derived.Deep.RegionHeld3
import Derived.Deep.DeepCutAuto
namespace Go.Proofs.Ytgjappjlnkdpnaa.exactOfLine
open Go.ChangeShapes Go.WideShapes Go.ChangeAt Go.RowKit
set_option maxRecDepth 100000

theorem own : ownKnob Try.prog.godebug = none := by kernel_rfl
theorem laidOut : laidOutB Try.prog = true := by kernel_rfl

set_option maxHeartbeats 16000000 in
theorem law (A0 : Option Addr) (c0 : Nat) (l0 : List ShipD) (a1 : Int) (w : World) (hin0 : l0.length ≤ maxLen ∧ (l0.length ≤ 1000000000 → SlShip w (.slice A0 l0.length c0) l0) ∧ ∀ x ∈ l0, ShipD.wf x) (_ : (Lit.int .i64 a1).wf = true) :
    Calls Try.prog 11 #[.slice A0 l0.length c0, .int .i64 a1] w fun e w' => e = .returned (.bool true) ∧ Below w.heap.size w w' := by
  obtain ⟨m0, s0, f0⟩ := hin0
  unfold maxLen at m0
  have SS0 := Lib.hid s0
  have FF0 := Lib.hid f0
  clear s0 f0
  have HB0 : Below w.heap.size w w := Below.refl _ _
  have BW := Lib.hid HB0
  clear HB0
  go_enter Try.func11, Try.ntmps11
  have B0 := Lib.hid (Below.refl (w).heap.size w)
  have hs0 : w.heap.size ≤ (w).heap.size := BW.out.size
  obtain ⟨r0, hr0⟩ : ∃ r0, (lineL l0 a1) = r0 := ⟨_, rfl⟩
  have HR0 := Lib.hid hr0
  clear hr0
  -- left := 1 << 20
  -- left = szShipS(aList, left)
  have hl1 : 0 ≤ (1048576 : Int) := by omega
  have hll1 : (1048576 : Int) ≤ 1048576 := by omega
  go_wp2_with fail
  refine (szShipS_any A0 l0 c0 _ (by omega) (fun h => (SS0.out h).below (BW.out.trans (B0.out.mono hs0))) (fun x hx => wfszShip (FF0.out x hx)) (1048576) hl1 hll1).mono ?_
  rintro e w1 ⟨rfl, hb1⟩
  have B1 := Lib.hid (B0.out.trans (hb1.mono B0.out.size))
  have hz1 : (w).heap.size ≤ w1.heap.size := hb1.size
  clear hb1 
  have ps1 := bulkShip_pos l0
  by_cases neg1 : (1048576 : Int) < ((l0.length : Int) + bulkShip l0)
  · rw [leftOf_no neg1]
    go_wp2
    go_ret
    exact ⟨rfl, BW.out.trans (B1.out.mono hs0)⟩
  rw [leftOf_yes neg1]
  have ne1 : ¬ (1048576 - ((l0.length : Int) + bulkShip l0) : Int) < 0 := by omega
  have R0 := Lib.hid (SS0.out (by omega))
  clear SS0
  -- w0 := spec.OfLine(toShipS(aList), aLine)
  go_wp2_with fail
  refine (toShipS_any _ l0 _ (R0.out.below (BW.out.trans (B1.out.mono hs0)))).mono ?_
  rintro e w2 ⟨u2, rfl, o2, hb2⟩
  have S2 := Lib.hid (OwnShip.sl o2 (by omega))
  have RG2 := Lib.hid (own_range o2)
  have FR2 := Lib.hid (own_freeV o2)
  obtain ⟨D2, k2, rfl⟩ := own_form o2
  have B2 := Lib.hid (B1.out.trans (hb2.mono B1.out.size))
  have hz2 : (w1).heap.size ≤ w2.heap.size := hb2.size
  clear hb2 o2
  have hlen : r0.length ≤ 10000000 := by rw [← HR0.out]; exact lineL_len _ _
  go_wp2_with fail
  refine (specOfLine _ l0 a1 _ S2.out FF0.out).mono ?_
  intro e w3 hN
  rw [HR0.out] at hN
  obtain ⟨u3, rfl, o3, hb3⟩ := hN
  have S3 := Lib.hid (OwnInt.sl o3 (by omega))
  have RG3 := Lib.hid (own_range o3)
  have FR3 := Lib.hid (own_freeV o3)
  obtain ⟨D3, k3, rfl⟩ := own_form o3
  have B3 := Lib.hid (B2.out.trans (hb3.mono B2.out.size))
  have t2_3 := Lib.hid (S2.out.below hb3)
  have hz3 : (w2).heap.size ≤ w3.heap.size := hb3.size
  clear o3
  clear hb3 
  -- x0 := toShipS(aList)
  go_wp2_with fail
  refine (toShipS_any _ l0 _ (R0.out.below (BW.out.trans (B3.out.mono hs0)))).mono ?_
  rintro e w4 ⟨u4, rfl, o4, hb4⟩
  have S4 := Lib.hid (OwnShip.sl o4 (by omega))
  have RG4 := Lib.hid (own_range o4)
  have FR4 := Lib.hid (own_freeV o4)
  obtain ⟨D4, k4, rfl⟩ := own_form o4
  have B4 := Lib.hid (B3.out.trans (hb4.mono B3.out.size))
  have w0_4 := Lib.hid (S3.out.below hb4)
  have w0F_4 := Lib.hid (FR3.out.below hb4)
  have hz4 : (w3).heap.size ≤ w4.heap.size := hb4.size
  clear hb4 o4
  -- g0 := impl.OfLine(x0, aLine)
  go_wp2_with fail
  refine (implOfLine _ l0 a1 _ S4.out FF0.out).mono ?_
  intro e w5 hN
  rw [HR0.out] at hN
  obtain ⟨u5, rfl, o5, hb5⟩ := hN
  have S5 := Lib.hid (OwnInt.sl o5 (by omega))
  have RG5 := Lib.hid (own_range o5)
  have FR5 := Lib.hid (own_freeV o5)
  obtain ⟨D5, k5, rfl⟩ := own_form o5
  have B5 := Lib.hid (B4.out.trans (hb5.mono B4.out.size))
  have w0_5 := Lib.hid (w0_4.out.below hb5)
  have w0F_5 := Lib.hid (w0F_4.out.below hb5)
  have x0_5 := Lib.hid (S4.out.below hb5)
  have x0F_5 := Lib.hid (FR4.out.below hb5)
  have hz5 : (w4).heap.size ≤ w5.heap.size := hb5.size
  clear o5
  clear hb5 
  -- if !eqIntS(g0, w0) {
  go_wp2_with fail
  refine (eqIntS_same _ _ r0 _ S5.out w0_5.out).mono ?_
  rintro e w6 ⟨rfl, hb6⟩
  have B6 := Lib.hid (B5.out.trans (hb6.mono B5.out.size))
  have w0_6 := Lib.hid (w0_5.out.below hb6)
  have w0F_6 := Lib.hid (w0F_5.out.below hb6)
  have x0_6 := Lib.hid (x0_5.out.below hb6)
  have x0F_6 := Lib.hid (x0F_5.out.below hb6)
  have g0_6 := Lib.hid (S5.out.below hb6)
  have g0F_6 := Lib.hid (FR5.out.below hb6)
  have hz6 : (w5).heap.size ≤ w6.heap.size := hb6.size
  clear hb6
  -- if !eqShipS(x0, toShipS(aList)) {
  go_wp2_with fail
  refine (toShipS_any _ l0 _ (R0.out.below (BW.out.trans (B6.out.mono hs0)))).mono ?_
  rintro e w7 ⟨u7, rfl, o7, hb7⟩
  have S7 := Lib.hid (OwnShip.sl o7 (by omega))
  have RG7 := Lib.hid (own_range o7)
  have FR7 := Lib.hid (own_freeV o7)
  obtain ⟨D7, k7, rfl⟩ := own_form o7
  have B7 := Lib.hid (B6.out.trans (hb7.mono B6.out.size))
  have w0_7 := Lib.hid (w0_6.out.below hb7)
  have w0F_7 := Lib.hid (w0F_6.out.below hb7)
  have x0_7 := Lib.hid (x0_6.out.below hb7)
  have x0F_7 := Lib.hid (x0F_6.out.below hb7)
  have g0_7 := Lib.hid (g0_6.out.below hb7)
  have g0F_7 := Lib.hid (g0F_6.out.below hb7)
  have hz7 : (w6).heap.size ≤ w7.heap.size := hb7.size
  clear hb7 o7
  go_wp2_with fail
  refine (eqShipS_same _ _ l0 _ x0_7.out S7.out).mono ?_
  rintro e w8 ⟨rfl, hb8⟩
  have B8 := Lib.hid (B7.out.trans (hb8.mono B7.out.size))
  have w0_8 := Lib.hid (w0_7.out.below hb8)
  have w0F_8 := Lib.hid (w0F_7.out.below hb8)
  have x0_8 := Lib.hid (x0_7.out.below hb8)
  have x0F_8 := Lib.hid (x0F_7.out.below hb8)
  have g0_8 := Lib.hid (g0_7.out.below hb8)
  have g0F_8 := Lib.hid (g0F_7.out.below hb8)
  have hz8 : (w7).heap.size ≤ w8.heap.size := hb8.size
  clear hb8
  -- k := 1
  -- k = markShipS(x0, k)
  go_wp2_with fail
  refine (markShipS_any _ l0 (1) _ x0_8.out (fun g hg => (x0F_8.out g hg).1) (by omega) (by omega) (by omega)).mono ?_
  rintro e w9 ⟨rfl, mm9, hg9⟩
  have ht9 := touch_grown hg9 RG4.out
  have B9 := Lib.hid (TouchR.below B8.out ht9 B8.out.size (by omega))
  have w0_9 := Lib.hid (SlOf.touch w0_8.out ht9 RG3.out (by omega))
  have w0F_9 := Lib.hid (FreeV.touch w0F_8.out ht9 RG3.out (by omega))
  have g0_9 := Lib.hid (SlOf.touch g0_8.out ht9 RG5.out (by omega))
  have g0F_9 := Lib.hid (FreeV.touch g0F_8.out ht9 RG5.out (by omega))
  have hz9 : (w8).heap.size ≤ w9.heap.size := ht9.size
  have MK_x0 := Lib.hid mm9
  clear ht9 hg9 mm9
  -- if k < 0 || !eqIntS(g0, w0) {
  go_wp2_with fail
  refine (eqIntS_same _ _ r0 _ g0_9.out w0_9.out).mono ?_
  rintro e w10 ⟨rfl, hb10⟩
  have B10 := Lib.hid (B9.out.trans (hb10.mono B9.out.size))
  have w0_10 := Lib.hid (w0_9.out.below hb10)
  have w0F_10 := Lib.hid (w0F_9.out.below hb10)
  have g0_10 := Lib.hid (g0_9.out.below hb10)
  have g0F_10 := Lib.hid (g0F_9.out.below hb10)
  have mkx0_10 := Lib.hid (MK_x0.out.below hb10)
  have hz10 : (w9).heap.size ≤ w10.heap.size := hb10.size
  clear hb10
  -- m := 1
  -- m = markIntS(g0, m)
  go_wp2_with fail
  refine (markIntS_any _ r0 (1) _ g0_10.out (fun g hg => (g0F_10.out g hg).1) (by omega) (by omega) (by omega)).mono ?_
  rintro e w11 ⟨rfl, mm11, hg11⟩
  have ht11 := touch_grown hg11 RG5.out
  have B11 := Lib.hid (TouchR.below B10.out ht11 B10.out.size (by omega))
  have w0_11 := Lib.hid (SlOf.touch w0_10.out ht11 RG3.out (by omega))
  have w0F_11 := Lib.hid (FreeV.touch w0F_10.out ht11 RG3.out (by omega))
  have mkx0_11 := Lib.hid (MarkedV.touch mkx0_10.out ht11 RG4.out (by omega))
  have hz11 : (w10).heap.size ≤ w11.heap.size := ht11.size
  have MK_g0 := Lib.hid mm11
  clear ht11 hg11 mm11
  -- q := 1
  -- q = heldIntS(g0, q)
  go_wp2_with fail
  refine (heldIntS_any _ r0.length D5 k5 rfl (1) _ MK_g0.out (by omega) (by omega) (by omega)).mono ?_
  rintro e w12 ⟨rfl, hb12⟩
  have B12 := Lib.hid (B11.out.trans (hb12.mono B11.out.size))
  have w0_12 := Lib.hid (w0_11.out.below hb12)
  have w0F_12 := Lib.hid (w0F_11.out.below hb12)
  have mkx0_12 := Lib.hid (mkx0_11.out.below hb12)
  have mkg0_12 := Lib.hid (MK_g0.out.below hb12)
  have hz12 : (w11).heap.size ≤ w12.heap.size := hb12.size
  clear hb12
  -- if q < 0 {
  -- if q != m {
  -- h0 := impl.OfLine(toShipS(aList), aLine)
  go_wp2_with fail
  refine (toShipS_any _ l0 _ (R0.out.below (BW.out.trans (B12.out.mono hs0)))).mono ?_
  rintro e w13 ⟨u13, rfl, o13, hb13⟩
  have S13 := Lib.hid (OwnShip.sl o13 (by omega))
  have RG13 := Lib.hid (own_range o13)
  have FR13 := Lib.hid (own_freeV o13)
  obtain ⟨D13, k13, rfl⟩ := own_form o13
  have B13 := Lib.hid (B12.out.trans (hb13.mono B12.out.size))
  have w0_13 := Lib.hid (w0_12.out.below hb13)
  have w0F_13 := Lib.hid (w0F_12.out.below hb13)
  have mkx0_13 := Lib.hid (mkx0_12.out.below hb13)
  have mkg0_13 := Lib.hid (mkg0_12.out.below hb13)
  have hz13 : (w12).heap.size ≤ w13.heap.size := hb13.size
  clear hb13 o13
  go_wp2_with fail
  refine (implOfLine _ l0 a1 _ S13.out FF0.out).mono ?_
  intro e w14 hN
  rw [HR0.out] at hN
  obtain ⟨u14, rfl, o14, hb14⟩ := hN
  have S14 := Lib.hid (OwnInt.sl o14 (by omega))
  have RG14 := Lib.hid (own_range o14)
  have FR14 := Lib.hid (own_freeV o14)
  obtain ⟨D14, k14, rfl⟩ := own_form o14
  have B14 := Lib.hid (B13.out.trans (hb14.mono B13.out.size))
  have w0_14 := Lib.hid (w0_13.out.below hb14)
  have w0F_14 := Lib.hid (w0F_13.out.below hb14)
  have mkx0_14 := Lib.hid (mkx0_13.out.below hb14)
  have mkg0_14 := Lib.hid (mkg0_13.out.below hb14)
  have t13_14 := Lib.hid (S13.out.below hb14)
  have hz14 : (w13).heap.size ≤ w14.heap.size := hb14.size
  clear o14
  clear hb14 
  -- if !eqIntS(h0, w0) {
  go_wp2_with fail
  refine (eqIntS_same _ _ r0 _ S14.out w0_14.out).mono ?_
  rintro e w15 ⟨rfl, hb15⟩
  have B15 := Lib.hid (B14.out.trans (hb15.mono B14.out.size))
  have w0_15 := Lib.hid (w0_14.out.below hb15)
  have w0F_15 := Lib.hid (w0F_14.out.below hb15)
  have mkx0_15 := Lib.hid (mkx0_14.out.below hb15)
  have mkg0_15 := Lib.hid (mkg0_14.out.below hb15)
  have h0_15 := Lib.hid (S14.out.below hb15)
  have h0F_15 := Lib.hid (FR14.out.below hb15)
  have hz15 : (w14).heap.size ≤ w15.heap.size := hb15.size
  clear hb15
  -- q = 1
  -- q = heldIntS(g0, q)
  go_wp2_with fail
  refine (heldIntS_any _ r0.length D5 k5 rfl (1) _ mkg0_15.out (by omega) (by omega) (by omega)).mono ?_
  rintro e w16 ⟨rfl, hb16⟩
  have B16 := Lib.hid (B15.out.trans (hb16.mono B15.out.size))
  have w0_16 := Lib.hid (w0_15.out.below hb16)
  have w0F_16 := Lib.hid (w0F_15.out.below hb16)
  have mkx0_16 := Lib.hid (mkx0_15.out.below hb16)
  have mkg0_16 := Lib.hid (mkg0_15.out.below hb16)
  have h0_16 := Lib.hid (h0_15.out.below hb16)
  have h0F_16 := Lib.hid (h0F_15.out.below hb16)
  have hz16 : (w15).heap.size ≤ w16.heap.size := hb16.size
  clear hb16
  -- if q < 0 {
  -- if q != m {
  -- return true
  go_wp2
  go_ret
  exact ⟨rfl, BW.out.trans (B16.out.mono hs0)⟩

set_option maxRecDepth 100000 in
theorem lifted (os : Os) (started : os.Started) (H : Type) (enc : TypeId × Value → H) :
    ReturnsInHanded {} Try.checked os 11 .any (Rows.fnExactOfLineSpec.pre6 enc Try.prog Try.f11 Rows.fnExactOfLineRow.domain false) (Rows.fnExactOfLineSpec.post enc Try.prog Try.f11 false true false false) := by
  refine returnsInHanded_of_change (C := Try.checked) own started (by kernel_rfl) Try.func11
    (ChangeSpec.witness6 (enc := enc) (C := Try.checked) false ⟨#[], #[.slice none 0 0, .int .i64 0], []⟩ 8 (by kernel_rfl) (by kernel_rfl) (by kernel_rfl) (by kernel_rfl)) ?_
  intro W base args ds gs before hval0 hW _ _
  have hval : ∀ (j : Nat) t v, Try.f11.params[j]? = some t → args[j]? = some v → Value.okWide Try.prog W .any base t v := hval0
  have hW' := hW
  obtain ⟨p, q, hA0, hV, rfl, _, _⟩ := hW
  have hA : DataW.TrodAll enc Try.prog W 0 (fun _ => true) true Try.f11.params.toList args.toList ds p := hA0
  rw [Try.params11] at hA hval
  obtain ⟨v0, vs0, d0, ds0, p0, q0, hargs, rfl, rfl, h0, r0⟩ := trodAll_cons hA
  obtain ⟨v1, vs1, d1, ds1, p1, q1, rfl, rfl, rfl, h1, r1⟩ := trodAll_cons r0
  obtain ⟨rfl, rfl, rfl⟩ := trodAll_nil r1
  obtain rfl : args = #[v0, v1] := by cases args; simp_all
  obtain ⟨A0, c0, l0, rfl, g0⟩ := open_ships_arg (hval 0 70 v0 rfl rfl) h0
  obtain ⟨a1, rfl, rfl, rfl, g1⟩ := open_int Try.underlying3 (hval 1 3 v1 rfl rfl) h1
  refine (law A0 c0 l0 a1 W g0 g1).mono fun e W' ⟨he, hb⟩ => ⟨_, he, ?_⟩
  exact law_post laidOut (by kernel_rfl) rfl (by kernel_rfl) Try.underlying4 rfl rfl rfl hW' hb

theorem holds : Rows.FnExactOfLineSaid :=
  OpenClaim.holds_of_wide 11 Try.f11 rfl rfl rfl rfl rfl rfl rfl ⟨rfl, rfl, rfl, rfl, rfl⟩ rfl rfl rfl rfl rfl (by kernel_rfl) Try.func11 (by kernel_rfl)
    (of_decide_eq_true (by kernel_rfl)) (by unfold Func.isWrapper; first | (rw [if_pos (by decide +kernel)]; kernel_rfl) | (rw [if_neg (by decide +kernel)]; exact ⟨rfl, rfl⟩))
    (fun os started H enc _ => lifted os started H enc)

end Go.Proofs.Ytgjappjlnkdpnaa.exactOfLine
