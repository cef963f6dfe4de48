
/- FnGathered holds for every code: gathered windows contain exactly the minutes of their parts, and complements and intersections are exact. No condition. -/
import Derived.Test.YtmjdlkninibocaaRows
import Derived.Test.YtmjdlkninibocaaCodeArg
import Derived.Test.YtmjdlkninibocaaKit
import Derived.Test.YtmjdlkninibocaaPieces
import Derived.Test.YtmjdlkninibocaaGathMath
import Derived.Test.YtmjdlkninibocaaWinGather
import Derived.Test.YtmjdlkninibocaaWinHas
namespace Go.Proofs.Ytmjdlkninibocaa.lawGathered
open Go.ChangeShapes Go.WideShapes Go.ChangeAt Go.RowKit
set_option maxRecDepth 100000

theorem own : ownKnob Try.prog.godebug = none := by kernel_rfl
theorem laidOut : laidOutB Try.prog = true := by kernel_rfl

theorem has_bool {l : List WindowD} {m : Int} {b : Bool} (h : Has l m ↔ b = true) : hasB l m = b := by
  have h1 := has_iff l m
  cases hb : hasB l m <;> cases b <;> simp_all
theorem new_window {R : List WindowD} {w w' : World} {e : Ending} (h : NewWindow R w e w') (hl : R.length ≤ 1000000000) : ∃ A c, e = .returned (.slice A R.length c) ∧ SlWindow w' (.slice A R.length c) R ∧ Below w.heap.size w w' := by
  obtain ⟨v, rfl, h1, h2⟩ := h
  have hs := OwnWindow.sl h1 hl
  obtain ⟨A, c, rfl⟩ := own_form h1
  exact ⟨A, c, rfl, hs, h2⟩

set_option maxHeartbeats 16000000 in
theorem law (A : Option Addr) (n c : Nat) (w : World) (hcode : n ≤ maxLen ∧ (n ≤ 1048576 → CodeAt w A n)) :
    Calls Try.prog 3 #[.slice A n c] w fun e w' => e = .returned (.bool true) ∧ Below w.heap.size w w' := by
  obtain ⟨hn, hcode⟩ := hcode
  have HC := Lib.hid hcode
  clear hcode
  unfold maxLen at hn
  by_cases hbig : 1048576 < n
  · go_enter Try.func3, Try.ntmps3
    go_wp2
    go_ret
    exact ⟨rfl, Below.refl _ _⟩
  · have HC0 := Lib.hid (HC.out (by omega))
    clear HC
    go_enter Try.func3, Try.ntmps3
    go_wp2_with fail
    refine (makePieces_any A n c w HC0.out).mono ?_
    rintro e w1 ⟨A1, k1, p, rfl, hp4, hsl, hb1⟩
    have SP1 := Lib.hid hsl
    have B1 := Lib.hid hb1
    have HC1 := Lib.hid (HC0.out.below hb1)
    clear hb1 hsl HC0
    have GOK := Lib.hid (gath_ok p)
    have GHAS := Lib.hid (show ∀ m : Int, 0 ≤ m → m ≤ 2880 → (Has (gathL p) m ↔ Has p m) from fun m h0 h1 => gath_has p h0 h1)
    have hglen := gathL_len p
    obtain ⟨g, hg⟩ : ∃ g, gathL p = g := ⟨_, rfl⟩
    rw [hg] at GOK GHAS hglen
    have HG := Lib.hid hg
    clear hg
    go_wp2_with fail
    refine (implGatherWindows _ p _ SP1.out).mono ?_
    rw [HG.out]
    intro e w2 hP
    obtain ⟨A2, k2, rfl, hs2, hb2⟩ := new_window hP (by omega)
    have SG2 := Lib.hid hs2
    clear hs2 hP HG
    have SP2 := Lib.hid (SP1.out.below hb2)
    have B2 := Lib.hid (B1.out.trans (hb2.mono B1.out.size))
    have HC2 := Lib.hid (HC1.out.below hb2)
    clear hb2 B1 HC1 SP1
    have ESP := other_spec GOK.out
    have holen := otherL_len g
    rw [← otherL_ok GOK.out.to] at ESP
    obtain ⟨u, hu⟩ : ∃ u, otherL g = u := ⟨_, rfl⟩
    rw [hu] at ESP holen
    have HU := Lib.hid hu
    have OOK := Lib.hid ESP.1
    have OHAS := Lib.hid ESP.2.1
    have OSUM := Lib.hid ESP.2.2
    clear ESP hu
    go_wp2_with fail
    refine (implOtherWindows _ g _ SG2.out).mono ?_
    rw [HU.out]
    intro e w3 hP
    obtain ⟨A3, k3, rfl, hs3, hb3⟩ := new_window hP (by omega)
    have SU3 := Lib.hid hs3
    clear hs3 hP HU
    have SP3 := Lib.hid (SP2.out.below hb3)
    have SG3 := Lib.hid (SG2.out.below hb3)
    have B3 := Lib.hid (B2.out.trans (hb3.mono B2.out.size))
    have HC3 := Lib.hid (HC2.out.below hb3)
    clear hb3 B2 HC2 SP2 SG2
    go_wp2_with fail
    refine (makeWindows_any A n c 60 _ HC3.out (by omega)).mono ?_
    rintro e w4 ⟨A4, k4, v, rfl, hok4, hl4, _, hs4, hb4⟩
    have SV4 := Lib.hid hs4
    have VOK := Lib.hid hok4
    clear hs4 hok4
    have SP4 := Lib.hid (SP3.out.below hb4)
    have SG4 := Lib.hid (SG3.out.below hb4)
    have SU4 := Lib.hid (SU3.out.below hb4)
    have B4 := Lib.hid (B3.out.trans (hb4.mono B3.out.size))
    have HC4 := Lib.hid (HC3.out.below hb4)
    clear hb4 B3 HC3 SP3 SG3 SU3
    clear HC4
    have ECO := common_ok GOK.out VOK.out
    have hclen : (commonL g v).length ≤ 10000 := by
      unfold commonL
      rw [if_pos ⟨GOK.out.to, VOK.out.to⟩]
      have := commF_len g v
      omega
    obtain ⟨b, hb⟩ : ∃ b, commonL g v = b := ⟨_, rfl⟩
    rw [hb] at ECO hclen
    have HB := Lib.hid hb
    have BOK := Lib.hid ECO.1
    have BHAS := Lib.hid ECO.2
    have ENO := common_ok GOK.out OOK.out
    have HN := Lib.hid (show commonL g u = [] from ENO.1.none fun m hm => by
      obtain ⟨h1, h2⟩ := (ENO.2 m).1 hm
      exact ((OHAS.out m).1 h2).2.2 h1)
    clear ECO ENO hb
    go_wp2_with fail
    refine (implCommonWindows _ g _ v _ SG4.out SV4.out).mono ?_
    rw [HB.out]
    intro e w5 hP
    obtain ⟨A5, k5, rfl, hs5, hb5⟩ := new_window hP (by omega)
    have SB5 := Lib.hid hs5
    clear hs5 hP HB
    have SP5 := Lib.hid (SP4.out.below hb5)
    have SG5 := Lib.hid (SG4.out.below hb5)
    have SU5 := Lib.hid (SU4.out.below hb5)
    have SV5 := Lib.hid (SV4.out.below hb5)
    have B5 := Lib.hid (B4.out.trans (hb5.mono B4.out.size))
    clear hb5 B4 SP4 SG4 SU4 SV4
    go_wp2_with fail
    refine (implWindowsOk _ g _ SG5.out).mono ?_
    rw [GOK.out.to]
    rintro e w6 ⟨rfl, hb6⟩
    have SP6 := Lib.hid (SP5.out.below hb6)
    have SG6 := Lib.hid (SG5.out.below hb6)
    have SU6 := Lib.hid (SU5.out.below hb6)
    have SV6 := Lib.hid (SV5.out.below hb6)
    have SB6 := Lib.hid (SB5.out.below hb6)
    have B6 := Lib.hid (B5.out.trans (hb6.mono B5.out.size))
    clear hb6 B5 SP5 SG5 SU5 SV5 SB5
    go_wp2_with fail
    refine (implWindowsOk _ u _ SU6.out).mono ?_
    rw [OOK.out.to]
    rintro e w7 ⟨rfl, hb7⟩
    have SP7 := Lib.hid (SP6.out.below hb7)
    have SG7 := Lib.hid (SG6.out.below hb7)
    have SU7 := Lib.hid (SU6.out.below hb7)
    have SV7 := Lib.hid (SV6.out.below hb7)
    have SB7 := Lib.hid (SB6.out.below hb7)
    have B7 := Lib.hid (B6.out.trans (hb7.mono B6.out.size))
    clear hb7 B6 SP6 SG6 SU6 SV6 SB6
    go_wp2_with fail
    refine (implWindowsOk _ b _ SB7.out).mono ?_
    rw [BOK.out.to]
    rintro e w8 ⟨rfl, hb8⟩
    have SP8 := Lib.hid (SP7.out.below hb8)
    have SG8 := Lib.hid (SG7.out.below hb8)
    have SU8 := Lib.hid (SU7.out.below hb8)
    have SV8 := Lib.hid (SV7.out.below hb8)
    have SB8 := Lib.hid (SB7.out.below hb8)
    have B8 := Lib.hid (B7.out.trans (hb8.mono B7.out.size))
    clear hb8 B7 SP7 SG7 SU7 SV7 SB7
    go_wp2_with fail
    refine (implCountMinutes _ g _ SG8.out).mono ?_
    rw [show countI g = sumW g by unfold countI; rw [GOK.out.to]; rfl]
    rintro e w9 ⟨rfl, hb9⟩
    have SP9 := Lib.hid (SP8.out.below hb9)
    have SG9 := Lib.hid (SG8.out.below hb9)
    have SU9 := Lib.hid (SU8.out.below hb9)
    have SV9 := Lib.hid (SV8.out.below hb9)
    have SB9 := Lib.hid (SB8.out.below hb9)
    have B9 := Lib.hid (B8.out.trans (hb9.mono B8.out.size))
    clear hb9 B8 SP8 SG8 SU8 SV8 SB8
    go_wp2_with fail
    refine (implCountMinutes _ u _ SU9.out).mono ?_
    rw [show countI u = sumW u by unfold countI; rw [OOK.out.to]; rfl]
    rintro e w10 ⟨rfl, hb10⟩
    have SP10 := Lib.hid (SP9.out.below hb10)
    have SG10 := Lib.hid (SG9.out.below hb10)
    have SU10 := Lib.hid (SU9.out.below hb10)
    have SV10 := Lib.hid (SV9.out.below hb10)
    have SB10 := Lib.hid (SB9.out.below hb10)
    have B10 := Lib.hid (B9.out.trans (hb10.mono B9.out.size))
    clear hb10 B9 SP9 SG9 SU9 SV9 SB9
    have hsum := OSUM.out
    have hsumw : IntKind.i64.wrap (sumW g + sumW u) = 2881 := by rw [hsum]; rfl
    clear OSUM hsum
    go_wp2_with fail
    clear hsumw
    refine (implCommonWindows _ g _ u _ SG10.out SU10.out).mono ?_
    rw [HN.out]
    intro e w11 hP
    obtain ⟨A11, k11, rfl, _, hb11⟩ := new_window hP (by simp)
    clear hP HN
    have SP11 := Lib.hid (SP10.out.below hb11)
    have SG11 := Lib.hid (SG10.out.below hb11)
    have SU11 := Lib.hid (SU10.out.below hb11)
    have SV11 := Lib.hid (SV10.out.below hb11)
    have SB11 := Lib.hid (SB10.out.below hb11)
    have B11 := Lib.hid (B10.out.trans (hb11.mono B10.out.size))
    clear hb11 B10 SP10 SG10 SU10 SV10 SB10
    go_wp2
    go_loopw [8] (fun i wr => ∃ k : Nat, k ≤ 1300 ∧ i = .int .i64 (k : Int) ∧ Hid (Below w11.heap.size w11 wr)) (fun i _ => (1300 - intOf i).toNat)
    case atStart => exact ⟨0, by omega, rfl, Lib.hid (Below.refl _ _)⟩
    case round =>
      obtain ⟨k, hk, rfl, hB⟩ := hrel
      by_cases hlt : k < 1300
      · obtain ⟨y, hy⟩ : ∃ y, hasB p (k : Int) = y := ⟨_, rfl⟩
        have e1 : hasB g (k : Int) = y := has_bool ((GHAS.out k (by omega) (by omega)).trans (by rw [← hy]; exact (has_iff _ _).symm))
        have e2 : hasB u (k : Int) = !y := has_bool ((OHAS.out k).trans (by
          rw [show (¬ Has g (k : Int)) ↔ y = false by rw [← has_iff, e1]; simp]
          constructor
          · rintro ⟨_, _, h⟩; rw [h]; rfl
          · intro h; exact ⟨by omega, by omega, by simpa using h⟩))
        have e3 : hasB b (k : Int) = (y && hasB v (k : Int)) := has_bool ((BHAS.out k).trans (by rw [← has_iff, ← has_iff, e1]; simp))
        obtain ⟨z, hz⟩ : ∃ z, hasB v (k : Int) = z := ⟨_, rfl⟩
        rw [hz] at e3
        have E0 := Lib.hid hy
        have E1 := Lib.hid e1
        have E2 := Lib.hid e2
        have E3 := Lib.hid e3
        have EZ := Lib.hid hz
        clear hy e1 e2 e3 hz
        have hnext : IntKind.i64.wrap ((k : Int) + 1) = (k : Int) + 1 := by rw [IntKind.wrap_i64]; omega
        have C0 := hB
        clear hB
        go_wp2_with fail
        refine (implHasMinute _ g (k : Int) _ (SG11.out.below C0.out)).mono ?_
        rw [E1.out]
        rintro e x1 ⟨rfl, hx1⟩
        have C1 := Lib.hid (C0.out.trans (hx1.mono C0.out.size))
        clear hx1 C0
        go_wp2_with fail
        refine (implHasMinute _ p (k : Int) _ (SP11.out.below C1.out)).mono ?_
        rw [E0.out]
        rintro e x2 ⟨rfl, hx2⟩
        have C2 := Lib.hid (C1.out.trans (hx2.mono C1.out.size))
        clear hx2 C1
        go_wp2_with fail
        refine (implHasMinute _ u (k : Int) _ (SU11.out.below C2.out)).mono ?_
        rw [E2.out]
        rintro e x3 ⟨rfl, hx3⟩
        have C3 := Lib.hid (C2.out.trans (hx3.mono C2.out.size))
        clear hx3 C2
        go_wp2_with fail
        refine (implHasMinute _ b (k : Int) _ (SB11.out.below C3.out)).mono ?_
        rw [E3.out]
        rintro e x4 ⟨rfl, hx4⟩
        have C4 := Lib.hid (C3.out.trans (hx4.mono C3.out.size))
        clear hx4 C3
        cases y with
        | false =>
          go_wp2
          go_roundw
          case rel => exact ⟨k + 1, by omega, by go_num, C4⟩
          case measure => simp [intOf]; omega
        | true =>
          go_wp2_with fail
          refine (implHasMinute _ v (k : Int) _ (SV11.out.below C4.out)).mono ?_
          rw [EZ.out]
          rintro e x5 ⟨rfl, hx5⟩
          have C5 := Lib.hid (C4.out.trans (hx5.mono C4.out.size))
          clear hx5 C4
          go_wp2
          go_roundw
          case rel => exact ⟨k + 1, by omega, by go_num, C5⟩
          case measure => simp [intOf]; omega
      · obtain rfl : k = 1300 := by omega
        have B12 := Lib.hid (B11.out.trans (hB.out.mono B11.out.size))
        go_wp2
        go_ret
        exact ⟨rfl, B12.out⟩

set_option maxRecDepth 100000 in
theorem lifted (os : Os) (started : os.Started) (H : Type) (enc : TypeId × Value → H) :
    ReturnsInHanded {} Try.checked os 3 .any (Rows.fnGatheredSpec.pre6 enc Try.prog Try.f3 Rows.fnGatheredRow.domain false) (Rows.fnGatheredSpec.post enc Try.prog Try.f3 false true false false) := by
  refine returnsInHanded_of_change (C := Try.checked) own started (by kernel_rfl) Try.func3
    (ChangeSpec.witness6 (enc := enc) (C := Try.checked) false ⟨#[], #[.slice none 0 0], []⟩ 8 (by kernel_rfl) (by kernel_rfl) (by kernel_rfl) (by kernel_rfl)) ?_
  intro W base args ds gs before hval0 hW _ _
  have hval : ∀ (j : Nat) t v, Try.f3.params[j]? = some t → args[j]? = some v → Value.okWide Try.prog W .any base t v := hval0
  have hW' := hW
  obtain ⟨p, q, hA0, hV, rfl, _, _⟩ := hW
  have hA : DataW.TrodAll enc Try.prog W 0 (fun _ => true) true Try.f3.params.toList args.toList ds p := hA0
  rw [Try.params3] at hA hval
  obtain ⟨v0, vs0, d0, ds0, p0, q0, hargs, rfl, rfl, h0, r0⟩ := trodAll_cons hA
  obtain ⟨rfl, rfl, rfl⟩ := trodAll_nil r0
  obtain rfl : args = #[v0] := by cases args; simp_all
  obtain ⟨A0, n0, c0, rfl, g0⟩ := open_code_arg (hval 0 22 v0 rfl rfl) h0
  refine (law A0 n0 c0 W g0).mono fun e W' ⟨he, hb⟩ => ⟨_, he, ?_⟩
  exact law_post laidOut (by kernel_rfl) rfl (by kernel_rfl) Try.underlying4 rfl rfl rfl hW' hb

theorem holds : Rows.FnGatheredSaid :=
  OpenClaim.holds_of_wide 3 Try.f3 rfl rfl rfl rfl rfl rfl rfl ⟨rfl, rfl, rfl, rfl, rfl⟩ rfl rfl rfl rfl rfl (by kernel_rfl) Try.func3 (by kernel_rfl)
    (of_decide_eq_true (by kernel_rfl)) (by unfold Func.isWrapper; first | (rw [if_pos (by decide +kernel)]; kernel_rfl) | (rw [if_neg (by decide +kernel)]; exact ⟨rfl, rfl⟩))
    (fun os started H enc _ => lifted os started H enc)

end Go.Proofs.Ytmjdlkninibocaa.lawGathered

