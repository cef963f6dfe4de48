
/- FnDilworth holds for every code: without ways between the points, the least number of persons is the greatest number of rivals. No condition. -/
import Derived.Test.YtfofbnpgjdagkaaRows
import Derived.Test.YtfofbnpgjdagkaaCv3
import Derived.Test.YtfofbnpgjdagkaaCv0
import Derived.Test.YtfofbnpgjdagkaaCv11
import Derived.Test.YtfofbnpgjdagkaaCv13
import Derived.Test.YtfofbnpgjdagkaaCv17
import Derived.Test.YtfofbnpgjdagkaaCv7
import Derived.Deep.RegionHeld3
import Derived.Deep.DeepCutAuto
namespace Go.Proofs.Ytfofbnpgjdagkaa.lawDilworth
open Go.ChangeShapes Go.WideShapes Go.ChangeAt Go.RowKit
set_option maxRecDepth 100000
theorem own : ownKnob Try.prog.godebug = none := by kernel_rfl
theorem laidOut : laidOutB Try.prog = true := by kernel_rfl
theorem gap_zero {p : Int} (h : 0 ≤ p ∧ p ≤ 2880) : gapO p stayMv ⟨0, 0, 0, 0⟩ ⟨0, 0, 0, 0⟩ = some p := by
  unfold gapO
  rw [if_pos ⟨tableB_stay h, rfl, rfl⟩]
  show (stayMv[0]?).map (fun n => p + n) = some p
  show some (p + 0) = some p
  rw [Int.add_zero]
set_option maxHeartbeats 8000000 in
theorem law (A : Option Addr) (n c : Nat) (w : World) (hcode : n ≤ maxLen ∧ (n ≤ 1048576 → CodeAt w A n)) :
    Calls Try.prog 4 #[.slice A n c] w fun e w' => e = .returned (.bool true) ∧ Below w.heap.size w w' := by
  obtain ⟨hn, hcode⟩ := hcode
  have HC := Lib.hid hcode
  clear hcode
  unfold maxLen at hn
  by_cases hbig : 1048576 < n
  · go_enter Try.func4, Try.ntmps4
    go_wp2
    go_ret
    exact ⟨rfl, Below.refl _ _⟩
  have HC0 := Lib.hid (HC.out (by omega))
  clear HC
  go_enter Try.func4, Try.ntmps4
  go_wp2_with fail
  refine (makeDuties_any A n c w HC0.out).mono ?_
  rintro e w1 ⟨p, vm, mv, vl, l, rfl, ⟨p0, p1⟩, hm64, hm20, hl6, hgd, hom, hol, hb1⟩
  obtain ⟨cw, k, hcov, hriv⟩ := dilworth_stay (pause := p) ⟨p0, by omega⟩ (duties_good (by omega) hgd)
  have HGAP := Lib.hid (gap_zero (p := p) ⟨p0, by omega⟩)
  have B1 := Lib.hid hb1
  have HN := Lib.hid (show covN (leastCov p stayMv l) = (k : Int) by rw [hcov]; rfl)
  have HS := Lib.hid (show (leastCov p stayMv l).isSome = true by rw [hcov]; rfl)
  have HR := Lib.hid (show (rivalD p stayMv l).length = k by omega)
  have SL := own_sl dutyLen hol (by omega)
  obtain ⟨Am, cm, rfl⟩ := own_form hom
  obtain ⟨Al, cl, rfl⟩ := own_form hol
  obtain ⟨nl, hnl⟩ : ∃ n, l.length = n := ⟨_, rfl⟩
  rw [hnl] at SL hl6 ⊢
  have SL1 := Lib.hid (show SlDuty w1 (.slice Al nl cl) l from SL)
  clear SL hnl hcov hriv hm64 hm20 hgd hom hol hb1
  go_wp2_with fail
  refine (implStayingMoves _).mono ?_
  rintro e w2 ⟨v2, rfl, ho2, hb2⟩
  have B2 := Lib.hid (B1.out.trans (hb2.mono B1.out.size))
  have SM2 := Lib.hid (show SlInt w2 v2 stayMv from own_sl intLen ho2 (by unfold stayMv; rw [List.length_replicate]; omega))
  have SL2 := Lib.hid (SL1.out.below hb2)
  obtain ⟨A2, c2, rfl⟩ := own_form ho2
  rw [List.length_replicate] at SM2 ⊢
  clear ho2 hb2
  go_wp2_with fail
  refine (implLeastCover p _ stayMv _ l _ SM2.out SL2.out).mono ?_
  rintro e w3 ⟨v3, rfl, ho3, hb3⟩
  rw [HN.out, HS.out]
  have B3 := Lib.hid (B2.out.trans (hb3.mono B2.out.size))
  have SL3 := Lib.hid (SL2.out.below hb3)
  obtain ⟨A3, c3, hv3⟩ := own_form ho3
  obtain ⟨n3, hn3⟩ : ∃ n, (covW (leastCov p stayMv l)).length = n := ⟨_, rfl⟩
  rw [hn3] at hv3
  subst hv3
  clear ho3 hb3 hn3
  go_wp2_with fail
  refine (implStayingMoves _).mono ?_
  rintro e w4 ⟨v4, rfl, ho4, hb4⟩
  have B4 := Lib.hid (B3.out.trans (hb4.mono B3.out.size))
  have SM4 := Lib.hid (show SlInt w4 v4 stayMv from own_sl intLen ho4 (by unfold stayMv; rw [List.length_replicate]; omega))
  have SL4 := Lib.hid (SL3.out.below hb4)
  obtain ⟨A4, c4, rfl⟩ := own_form ho4
  rw [List.length_replicate] at SM4 ⊢
  clear ho4 hb4
  go_wp2_with fail
  refine (implGap p _ stayMv ⟨0, 0, 0, 0⟩ ⟨0, 0, 0, 0⟩ _ SM4.out).mono ?_
  rw [HGAP.out]
  rintro e w5 ⟨rfl, hb5⟩
  have B5 := Lib.hid (B4.out.trans (hb5.mono B4.out.size))
  have SL5 := Lib.hid (SL4.out.below hb5)
  clear hb5
  go_wp2_with fail
  refine (implStayingMoves _).mono ?_
  rintro e w6 ⟨v6, rfl, ho6, hb6⟩
  have B6 := Lib.hid (B5.out.trans (hb6.mono B5.out.size))
  have SM6 := Lib.hid (show SlInt w6 v6 stayMv from own_sl intLen ho6 (by unfold stayMv; rw [List.length_replicate]; omega))
  have SL6 := Lib.hid (SL5.out.below hb6)
  obtain ⟨A6, c6, rfl⟩ := own_form ho6
  rw [List.length_replicate] at SM6 ⊢
  clear ho6 hb6
  go_wp2_with fail
  refine (implRivalDuties p _ stayMv _ l _ SM6.out SL6.out).mono ?_
  rintro e w7 ⟨v7, rfl, ho7, hb7⟩
  have B7 := Lib.hid (B6.out.trans (hb7.mono B6.out.size))
  obtain ⟨A7, c7, hv7⟩ := own_form ho7
  rw [HR.out] at hv7
  subst hv7
  clear ho7 hb7
  go_wp2
  go_ret
  exact ⟨rfl, B7.out⟩
set_option maxRecDepth 100000 in
theorem lifted (os : Os) (started : os.Started) (H : Type) (enc : TypeId × Value → H) :
    ReturnsInHanded {} Try.checked os 4 .any (Rows.fnDilworthSpec.pre6 enc Try.prog Try.f4 Rows.fnDilworthRow.domain false) (Rows.fnDilworthSpec.post enc Try.prog Try.f4 false true false false) := by
  refine returnsInHanded_of_change (C := Try.checked) own started (by kernel_rfl) Try.func4
    (ChangeSpec.witness6 (enc := enc) (C := Try.checked) false ⟨#[], #[.slice none 0 0], []⟩ 8 (by kernel_rfl) (by kernel_rfl) (by kernel_rfl) (by kernel_rfl)) ?_
  intro W base args ds gs before hval0 hW _ _
  have hval : ∀ (j : Nat) t v, Try.f4.params[j]? = some t → args[j]? = some v → Value.okWide Try.prog W .any base t v := hval0
  have hW' := hW
  obtain ⟨p, q, hA0, hV, rfl, _, _⟩ := hW
  have hA : DataW.TrodAll enc Try.prog W 0 (fun _ => true) true Try.f4.params.toList args.toList ds p := hA0
  rw [Try.params4] at hA hval
  obtain ⟨v0, vs0, d0, ds0, p0, q0, hargs, rfl, rfl, h0, r0⟩ := trodAll_cons hA
  obtain ⟨rfl, rfl, rfl⟩ := trodAll_nil r0
  obtain rfl : args = #[v0] := by cases args; simp_all
  obtain ⟨A0, n0, c0, rfl, g0⟩ := open_code_arg (hval 0 22 v0 rfl rfl) h0
  refine (law A0 n0 c0 W g0).mono fun e W' ⟨he, hb⟩ => ⟨_, he, ?_⟩
  exact law_post laidOut (by kernel_rfl) rfl (by kernel_rfl) Try.underlying4 rfl rfl rfl hW' hb
theorem holds : Rows.FnDilworthSaid :=
  OpenClaim.holds_of_wide 4 Try.f4 rfl rfl rfl rfl rfl rfl rfl ⟨rfl, rfl, rfl, rfl, rfl⟩ rfl rfl rfl rfl rfl (by kernel_rfl) Try.func4 (by kernel_rfl)
    (of_decide_eq_true (by kernel_rfl)) (by unfold Func.isWrapper; first | (rw [if_pos (by decide +kernel)]; kernel_rfl) | (rw [if_neg (by decide +kernel)]; exact ⟨rfl, rfl⟩))
    (fun os started H enc _ => lifted os started H enc)
end Go.Proofs.Ytfofbnpgjdagkaa.lawDilworth
