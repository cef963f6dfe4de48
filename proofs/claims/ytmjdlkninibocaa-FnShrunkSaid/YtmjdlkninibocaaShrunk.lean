
/- FnShrunk holds for every code: what takes n minutes can begin at a minute of the shrunk windows and at no other one; the next minute. No condition. -/
import Derived.Test.YtmjdlkninibocaaRows
import Derived.Test.YtmjdlkninibocaaCodeArg
import Derived.Test.YtmjdlkninibocaaKit
import Derived.Test.YtmjdlkninibocaaDrawWin
import Derived.Test.YtmjdlkninibocaaShrunkMath
import Derived.Test.YtmjdlkninibocaaWinHas
namespace Go.Proofs.Ytmjdlkninibocaa.lawShrunk
open Go.ChangeShapes Go.WideShapes Go.ChangeAt Go.RowKit
set_option maxRecDepth 100000

theorem own : ownKnob Try.prog.godebug = none := by kernel_rfl
theorem laidOut : laidOutB Try.prog = true := by kernel_rfl

theorem has_bool {l : List WindowD} {m : Int} {b : Bool} (h : Has l m ↔ b = true) : hasB l m = b := by
  have h1 := has_iff l m
  cases hb : hasB l m <;> cases b <;> simp_all
theorem new_window {R : List WindowD} {w w' : World} {e : Ending} (h : NewWindow R w e w') (hl : R.length ≤ 1000000000) : ∃ A c, e = .returned (.slice A R.length c) ∧ SlWindow w' (.slice A R.length c) R ∧ Below w.heap.size w w' := by
  obtain ⟨v, rfl, h1, h2⟩ := h
  have hs := OwnWindow.sl h1 hl
  obtain ⟨A, c, rfl⟩ := own_form h1
  exact ⟨A, c, rfl, hs, h2⟩

set_option maxHeartbeats 16000000 in
theorem law (A : Option Addr) (n c : Nat) (w : World) (hcode : n ≤ maxLen ∧ (n ≤ 1048576 → CodeAt w A n)) :
    Calls Try.prog 4 #[.slice A n c] w fun e w' => e = .returned (.bool true) ∧ Below w.heap.size w w' := by
  obtain ⟨hn, hcode⟩ := hcode
  have HC := Lib.hid hcode
  clear hcode
  unfold maxLen at hn
  by_cases hbig : 1048576 < n
  · go_enter Try.func4, Try.ntmps4
    go_wp2
    go_ret
    exact ⟨rfl, Below.refl _ _⟩
  · have HC0 := Lib.hid (HC.out (by omega))
    clear HC
    go_enter Try.func4, Try.ntmps4
    go_wp2_with fail
    refine (makeWindows_any A n c 1 w HC0.out (by omega)).mono ?_
    rintro e w1 ⟨A1, k1, l, rfl, hok, hl3, hlate, hsl, hb1⟩
    have SL1 := Lib.hid hsl
    have B1 := Lib.hid hb1
    have HC1 := Lib.hid (HC0.out.below hb1)
    have HW := Lib.hid hok
    have LATE := Lib.hid hlate
    clear hb1 hsl hok hlate HC0
    go_wp2_with fail
    refine (makeNum_any A n c 60 _ HC1.out (by omega)).mono ?_
    rintro e w2 ⟨x, rfl, x0, x1, hb2⟩
    have SL2 := Lib.hid (SL1.out.below hb2)
    have B2 := Lib.hid (B1.out.trans (hb2.mono B1.out.size))
    obtain ⟨t, ht⟩ : ∃ t, x % 60 = t := ⟨_, rfl⟩
    have t0 : 0 ≤ t := by omega
    have t1 : t < 60 := by omega
    clear hb2 SL1 B1 HC1
    go_wp2_with fail
    rw [ht]
    clear ht x0 x1
    have ES := Lib.hid (show shrinkL l t = shrW t l by rw [shrinkL_ok HW.out.to (inB_mk t0 (by omega)), List.take_length])
    have hsl4 := shrW_len t l
    refine (implShrinkWindows _ l t _ SL2.out).mono ?_
    rw [ES.out]
    obtain ⟨s, hs⟩ : ∃ s, shrW t l = s := ⟨_, rfl⟩
    rw [hs] at hsl4 ⊢
    intro e w3 hP
    obtain ⟨A3, k3, rfl, hs3, hb3⟩ := new_window hP (by omega)
    have SS3 := Lib.hid hs3
    have SL3 := Lib.hid (SL2.out.below hb3)
    have B3 := Lib.hid (B2.out.trans (hb3.mono B2.out.size))
    have HS := Lib.hid (show WOk s by rw [← hs]; exact shr_ok HW.out t0)
    have HSUM := Lib.hid (show sumW s ≤ sumW l by rw [← hs]; exact sum_shr t0 l (fun x hx => (HW.out.1 x hx).2.1))
    have HR := Lib.hid (show ∀ m r, Run l (m - 1) r → (Has s m ↔ t < (r : Nat)) from fun m r h => by rw [← hs]; exact h.shr HW.out t0)
    clear hP hb3 hs3 hs ES SL2 B2
    go_wp2_with fail
    refine (implWindowsOk _ s _ SS3.out).mono ?_
    rw [HS.out.to]
    rintro e w4 ⟨rfl, hb4⟩
    have SS4 := Lib.hid (SS3.out.below hb4)
    have SL4 := Lib.hid (SL3.out.below hb4)
    have B4 := Lib.hid (B3.out.trans (hb4.mono B3.out.size))
    clear hb4 SS3 SL3 B3
    go_wp2_with fail
    refine (implWindowsOk _ l _ SL4.out).mono ?_
    rw [HW.out.to]
    rintro e w5 ⟨rfl, hb5⟩
    have SS5 := Lib.hid (SS4.out.below hb5)
    have SL5 := Lib.hid (SL4.out.below hb5)
    have B5 := Lib.hid (B4.out.trans (hb5.mono B4.out.size))
    clear hb5 SS4 SL4 B4
    go_wp2_with fail
    refine (implCountMinutes _ s _ SS5.out).mono ?_
    rw [show countI s = sumW s by unfold countI; rw [HS.out.to]; rfl]
    rintro e w6 ⟨rfl, hb6⟩
    have SS6 := Lib.hid (SS5.out.below hb6)
    have SL6 := Lib.hid (SL5.out.below hb6)
    have B6 := Lib.hid (B5.out.trans (hb6.mono B5.out.size))
    clear hb6 SS5 SL5 B5
    go_wp2_with fail
    refine (implCountMinutes _ l _ SL6.out).mono ?_
    rw [show countI l = sumW l by unfold countI; rw [HW.out.to]; rfl]
    rintro e w7 ⟨rfl, hb7⟩
    have SS7 := Lib.hid (SS6.out.below hb7)
    have SL7 := Lib.hid (SL6.out.below hb7)
    have B7 := Lib.hid (B6.out.trans (hb7.mono B6.out.size))
    have hsum := HSUM.out
    clear hb7 SS6 SL6 B6 HSUM
    go_wp2
    have R0 := Lib.hid (show Run l 1600 0 from Run.start (fun x hx => by have := LATE.out x hx; omega))
    go_loopw [6, 7] (fun q i wr => ∃ (k r : Nat), k ≤ 1601 ∧ r + k ≤ 1601 ∧ i = .int .i64 ((k : Int) - 1) ∧ q = .int .i64 r ∧ Hid (Run l ((k : Int) - 1) r) ∧ Hid (Below w7.heap.size w7 wr)) (fun _ i _ => (intOf i + 1).toNat)
    case atStart => exact ⟨1601, 0, by omega, by omega, rfl, rfl, R0, Lib.hid (Below.refl _ _)⟩
    case round =>
      clear R0 hsum
      obtain ⟨k, r, hk, hrk, rfl, rfl, hR, hB⟩ := hrel
      by_cases h0 : 0 < k
      · have hw1 : IntKind.i64.wrap ((r : Int) + 1) = (r : Int) + 1 := by rw [IntKind.wrap_i64]; omega
        go_wp2_with fail
        refine (implHasMinute _ l ((k : Int) - 1) _ (SL7.out.below hB.out)).mono ?_
        cases hh : hasB l ((k : Int) - 1) with
        | true =>
          have R1 := Lib.hid (hR.out.yes ((has_iff _ _).1 hh))
          have hE := has_bool (b := decide (t < (r : Int) + 1)) ((HR.out _ _ R1.out).trans (by simp))
          clear hR hh
          rintro e w8 ⟨rfl, hb8⟩
          have B8 := Lib.hid (hB.out.trans (hb8.mono hB.out.size))
          clear hb8 hB
          go_wp2_with fail
          refine (implHasMinute _ s ((k : Int) - 1) _ (SS7.out.below B8.out)).mono ?_
          rw [hE]
          rintro e w9 ⟨rfl, hb9⟩
          have B9 := Lib.hid (B8.out.trans (hb9.mono B8.out.size))
          clear hb9 B8
          go_wp2
          go_roundw
          case rel => exact ⟨k - 1, r + 1, by omega, by omega, by go_num, by go_num, (by have e : ((k - 1 : Nat) : Int) - 1 = (k : Int) - 1 - 1 := (by omega); rw [e]; exact R1), B9⟩
          case measure => simp [intOf]; omega
        | false =>
          have R1 := Lib.hid (Run.no (l := l) (m := (k : Int) - 1) (fun h => by have := (has_iff _ _).2 h; rw [hh] at this; cases this))
          have hE := has_bool (b := decide (t < 0)) ((HR.out _ _ R1.out).trans (by simp))
          clear hR hh
          rintro e w8 ⟨rfl, hb8⟩
          have B8 := Lib.hid (hB.out.trans (hb8.mono hB.out.size))
          clear hb8 hB
          go_wp2_with fail
          refine (implHasMinute _ s ((k : Int) - 1) _ (SS7.out.below B8.out)).mono ?_
          rw [hE]
          rintro e w9 ⟨rfl, hb9⟩
          have B9 := Lib.hid (B8.out.trans (hb9.mono B8.out.size))
          clear hb9 B8
          go_wp2
          go_roundw
          case rel => exact ⟨k - 1, 0, by omega, by omega, by go_num, by go_num, (by have e : ((k - 1 : Nat) : Int) - 1 = (k : Int) - 1 - 1 := (by omega); rw [e]; exact R1), B9⟩
          case measure => simp [intOf]; omega
      · have SL8 := Lib.hid (SL7.out.below hB.out)
        have B8 := Lib.hid (B7.out.trans (hB.out.mono B7.out.size))
        clear SL7 SS7 B7 hB hR HR
        obtain ⟨q, hq⟩ : ∃ q, nextI l t = q := ⟨_, rfl⟩
        have NS := next_spec HW.out t
        rw [hq] at NS
        have NS := Lib.hid NS
        go_wp2_with fail
        refine (implNextMinute _ l t _ SL8.out).mono ?_
        rw [hq]
        clear hq
        rintro e w9 ⟨rfl, hb9⟩
        have SL9 := Lib.hid (SL8.out.below hb9)
        have B9 := Lib.hid (B8.out.trans (hb9.mono B8.out.size))
        clear hb9 SL8 B8
        rcases NS.out with ⟨rfl, hall⟩ | ⟨q0, q1, q2⟩
        · clear NS
          have HALL := Lib.hid hall
          clear hall
          obtain ⟨hl, h⟩ := SL9.out
          rcases h with ⟨rfl, A', c', he⟩ | ⟨g, o, c', he, hp, hcap, hcl⟩
          · go_wp2
            go_ret
            exact ⟨rfl, B9.out⟩
          · injection he with hA hlen hcp
            subst hA hcp
            have hlast : ∃ z, l[l.length - 1]? = some z := ⟨_, List.getElem?_eq_getElem (by omega)⟩
            obtain ⟨z, hz⟩ := hlast
            obtain ⟨z0, z1⟩ := SlWindow.cells hcl _ z hz
            have hzt := HALL.out z (List.mem_of_getElem? hz)
            have HZ := Lib.hid hz
            clear hz hcl
            have e0 : ((l.length : Int) == 0) = false := (by have : ((l.length : Int) ≠ 0) := (by omega); simpa using this)
            go_wp2
            go_ret
            exact ⟨rfl, B9.out⟩
        · clear NS
          have e1 : (q == -1) = false := by simp; omega
          have hq1 := (has_iff l q).2 q1
          go_wp2_with fail
          refine (implHasMinute _ l q _ SL9.out).mono ?_
          rw [hq1]
          rintro e w10 ⟨rfl, hb10⟩
          have SL10 := Lib.hid (SL9.out.below hb10)
          have B10 := Lib.hid (B9.out.trans (hb10.mono B9.out.size))
          clear hb10 SL9 B9 hq1 q1
          by_cases hqt : q = t
          · subst hqt
            go_wp2
            go_ret
            exact ⟨rfl, B10.out⟩
          · have e2 : (q == t) = false := by simpa using hqt
            have hn : hasB l t = false := has_bool (by simpa using q2.resolve_left hqt)
            clear q2
            go_wp2_with fail
            refine (implHasMinute _ l t _ SL10.out).mono ?_
            rw [hn]
            rintro e w11 ⟨rfl, hb11⟩
            have B11 := Lib.hid (B10.out.trans (hb11.mono B10.out.size))
            go_wp2
            go_ret
            exact ⟨rfl, B11.out⟩

set_option maxRecDepth 100000 in
theorem lifted (os : Os) (started : os.Started) (H : Type) (enc : TypeId × Value → H) :
    ReturnsInHanded {} Try.checked os 4 .any (Rows.fnShrunkSpec.pre6 enc Try.prog Try.f4 Rows.fnShrunkRow.domain false) (Rows.fnShrunkSpec.post enc Try.prog Try.f4 false true false false) := by
  refine returnsInHanded_of_change (C := Try.checked) own started (by kernel_rfl) Try.func4
    (ChangeSpec.witness6 (enc := enc) (C := Try.checked) false ⟨#[], #[.slice none 0 0], []⟩ 8 (by kernel_rfl) (by kernel_rfl) (by kernel_rfl) (by kernel_rfl)) ?_
  intro W base args ds gs before hval0 hW _ _
  have hval : ∀ (j : Nat) t v, Try.f4.params[j]? = some t → args[j]? = some v → Value.okWide Try.prog W .any base t v := hval0
  have hW' := hW
  obtain ⟨p, q, hA0, hV, rfl, _, _⟩ := hW
  have hA : DataW.TrodAll enc Try.prog W 0 (fun _ => true) true Try.f4.params.toList args.toList ds p := hA0
  rw [Try.params4] at hA hval
  obtain ⟨v0, vs0, d0, ds0, p0, q0, hargs, rfl, rfl, h0, r0⟩ := trodAll_cons hA
  obtain ⟨rfl, rfl, rfl⟩ := trodAll_nil r0
  obtain rfl : args = #[v0] := by cases args; simp_all
  obtain ⟨A0, n0, c0, rfl, g0⟩ := open_code_arg (hval 0 22 v0 rfl rfl) h0
  refine (law A0 n0 c0 W g0).mono fun e W' ⟨he, hb⟩ => ⟨_, he, ?_⟩
  exact law_post laidOut (by kernel_rfl) rfl (by kernel_rfl) Try.underlying4 rfl rfl rfl hW' hb

theorem holds : Rows.FnShrunkSaid :=
  OpenClaim.holds_of_wide 4 Try.f4 rfl rfl rfl rfl rfl rfl rfl ⟨rfl, rfl, rfl, rfl, rfl⟩ rfl rfl rfl rfl rfl (by kernel_rfl) Try.func4 (by kernel_rfl)
    (of_decide_eq_true (by kernel_rfl)) (by unfold Func.isWrapper; first | (rw [if_pos (by decide +kernel)]; kernel_rfl) | (rw [if_neg (by decide +kernel)]; exact ⟨rfl, rfl⟩))
    (fun os started H enc _ => lifted os started H enc)

end Go.Proofs.Ytmjdlkninibocaa.lawShrunk
