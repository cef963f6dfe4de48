/- The exact law of PadZeros holds for every string and every int: impl.PadZeros answers as its model, and the arguments read as before. No condition. -/
import Derived.Test.YtpcmiohnhbaciaaRows
import Derived.Test.YtpcmiohnhbaciaaJoined
import Derived.Test.YtpcmiohnhbaciaaKit
import Derived.Lib.Repeat
namespace Go.Proofs.Ytpcmiohnhbaciaa.exactPadZeros
open Go.ChangeShapes Go.WideShapes Go.ChangeAt Go.RowKit
open Go.ChangeMaps (open_string shut_string)

theorem own : ownKnob Try.prog.godebug = none := by kernel_rfl
theorem laidOut : laidOutB Try.prog = true := by kernel_rfl

def zeros (k : Nat) : ByteArray := ⟨(List.replicate k (48 : UInt8)).toArray⟩
def padOf (s : ByteArray) (k : Nat) : ByteArray := zeros k ++ s
theorem zeros_size (k : Nat) : (zeros k).size = k := by
  show (List.replicate k (48 : UInt8)).toArray.size = k
  simp
theorem padOf_size (s : ByteArray) (k : Nat) : (padOf s k).size = k + s.size := by
  unfold padOf; rw [ByteArray.size_append, zeros_size]
theorem padOf_zero (s : ByteArray) : padOf s 0 = s := by
  apply ba_ext; simp [padOf, zeros, ByteArray.data_append]
theorem padOf_succ (s : ByteArray) (k : Nat) : ⟨#[48]⟩ ++ padOf s k = padOf s (k + 1) := by
  apply ba_ext
  simp [padOf, zeros, ByteArray.data_append, List.replicate_succ]
theorem padOf_join (s : ByteArray) (k : Nat) : joinOf [zeros k, s] ⟨#[]⟩ = padOf s k := by
  have h : [zeros k, s] = [zeros k] ++ [s] := rfl
  rw [h, joinOf_snoc _ _ _ (by simp), joinOf_one]
  apply ba_ext; simp [padOf, ByteArray.data_append]
theorem repeat_zeros (k : Nat) : (⟨(Lib.repeatL (⟨#[48]⟩ : ByteArray).data.toList k).toArray⟩ : ByteArray) = zeros k := by
  have h := Lib.repeatL_replicate 48 1 k
  rw [Nat.mul_one] at h
  show (⟨(Lib.repeatL (List.replicate 1 48) k).toArray⟩ : ByteArray) = _
  rw [h]; rfl

/-- How many zeros PadZeros puts. -/
def padN (s : ByteArray) (n : Int) : Nat := if n ≤ 2000 then (n - (s.size : Int)).toNat else 0

set_option maxHeartbeats 1000000 in
theorem specPad (s : ByteArray) (n : Int) (w : World) (hs : s.size ≤ 1048576) (hn0 : -9223372036854775808 ≤ n) (hn1 : n ≤ 9223372036854775807) :
    Calls Try.prog 24 #[.string s, .int .i64 n] w fun e w' => e = .returned (.string (padOf s (padN s n))) ∧ w = w' := by
  by_cases hbig : 2000 < n
  · have hp := Lib.hid (show padN s n = 0 from if_neg (by omega))
    go_enter Try.func24, Try.ntmps24
    go_wp2
    go_ret
    exact ⟨ret_str (by rw [hp.out, padOf_zero]), rfl⟩
  · have hp := Lib.hid (show padN s n = (n - (s.size : Int)).toNat from if_pos (by omega))
    go_enter Try.func24, Try.ntmps24
    go_wp2
    go_loop [0] (fun q => ∃ (k : Nat) (t : ByteArray), k ≤ (n - (s.size : Int)).toNat ∧ q = .string t ∧ t.size = k + s.size ∧ Hid (t = padOf s k)) (fun q => (n - (match q with | .string t => (t.size : Int) | _ => 0)).toNat)
    case atStart => exact ⟨0, s, Nat.zero_le _, rfl, by omega, (padOf_zero s).symm⟩
    case round =>
      obtain ⟨k, t, hk, rfl, hts, ht⟩ := hrel
      have HT := Lib.hid hts
      have h1 : (t.size : Int) ≤ 2000 + 1048576 := by omega
      by_cases hlt : (t.size : Int) < n
      · clear hts
        go_wp2
        go_round
        case rel => exact ⟨k + 1, _, by have := HT.out; omega, rfl, by rw [ByteArray.size_append, HT.out]; show 1 + _ = _; omega, by show _ = _; rw [ht.out]; exact padOf_succ s k⟩
        case measure =>
          show (n - (((⟨#[48]⟩ : ByteArray) ++ t).size : Int)).toNat < (n - (t.size : Int)).toNat
          rw [ByteArray.size_append]
          have h1 : (⟨#[48]⟩ : ByteArray).size = 1 := rfl
          rw [h1]; omega
      · clear hts
        go_wp2
        go_ret
        exact ⟨ret_str (by rw [ht.out, hp.out]; congr 1; have := HT.out; omega), rfl⟩

set_option maxHeartbeats 1000000 in
theorem implPad (s : ByteArray) (n : Int) (w : World) (hs : s.size ≤ 1048576) (hn0 : -9223372036854775808 ≤ n) (hn1 : n ≤ 9223372036854775807) :
    Calls Try.prog 25 #[.string s, .int .i64 n] w fun e w' => e = .returned (.string (padOf s (padN s n))) ∧ Below w.heap.size w w' := by
  by_cases hge : n ≤ (s.size : Int)
  · have hp := Lib.hid (show padN s n = 0 by unfold padN; split <;> omega)
    go_enter Try.func25, Try.ntmps25
    go_wp2
    go_ret
    exact ⟨ret_str (by rw [hp.out, padOf_zero]), Below.refl _ _⟩
  · by_cases hbig : 2000 < n
    · have hp := Lib.hid (show padN s n = 0 from if_neg (by omega))
      go_enter Try.func25, Try.ntmps25
      go_wp2
      go_ret
      exact ⟨ret_str (by rw [hp.out, padOf_zero]), Below.refl _ _⟩
    · obtain ⟨c, hc⟩ : ∃ c : Nat, n - (s.size : Int) = (c : Int) := ⟨(n - (s.size : Int)).toNat, by omega⟩
      have hc2 : c ≤ 2000 := by omega
      have hp := Lib.hid (show padN s n = c by unfold padN; rw [if_pos (by omega)]; omega)
      have cr := Try.strings_Repeat ⟨#[48]⟩ c w (by omega) (by show 1 * c ≤ _; omega)
      rw [repeat_zeros, ← hc] at cr
      have CR := Lib.hid cr
      have HC := Lib.hid hc
      clear cr hc
      go_enter Try.func25, Try.ntmps25
      go_wp2_with fail
      refine CR.out.mono ?_
      rintro e w1 ⟨rfl, hb1⟩
      go_wp2_with fail
      refine (joined_any _ [zeros c, s] ⟨#[]⟩ _ ⟨by simp, .inr ⟨w1.heap.size, 0, 2, rfl, by simp, by simp, fun j x hx => ?_⟩⟩ (by rw [padOf_join, padOf_size]; omega)).mono ?_
      · rw [World.cell?_alloc_at _ _ _ _ rfl]
        match j, hx with
        | 0, hx => simp at hx; subst hx; rfl
        | 1, hx => simp at hx; subst hx; rfl
      · rintro e w2 ⟨rfl, hb2⟩
        have B : Below w.heap.size w w2 := (hb1.alloc hb1.size _).trans (hb2.mono (by simp; have := hb1.size; omega))
        go_wp2
        go_ret
        exact ⟨ret_str (by rw [padOf_join, hp.out]), B⟩

set_option maxHeartbeats 1000000 in
theorem law (s : ByteArray) (n : Int) (w : World) (hs : s.size ≤ maxLen) (hn : (Lit.int .i64 n).wf = true) :
    Calls Try.prog 8 #[.string s, .int .i64 n] w fun e w' => e = .returned (.bool true) ∧ Below w.heap.size w w' := by
  obtain ⟨hn0, hn1⟩ := bounds_i64 hn
  unfold maxLen at hs
  by_cases hbig : 1048576 < s.size
  · go_enter Try.func8, Try.ntmps8
    go_wp2
    go_ret
    exact ⟨rfl, Below.refl _ _⟩
  · go_enter Try.func8, Try.ntmps8
    go_wp2_with fail
    refine (specPad s n w (by omega) hn0 hn1).mono ?_
    rintro e w1 ⟨rfl, rfl⟩
    go_wp2_with fail
    refine (implPad s n w (by omega) hn0 hn1).mono ?_
    rintro e w2 ⟨rfl, hb⟩
    go_wp2
    go_ret
    exact ⟨rfl, hb⟩

set_option maxRecDepth 100000 in
theorem lifted (os : Os) (started : os.Started) (H : Type) (enc : TypeId × Value → H) :
    ReturnsInHanded {} Try.checked os 8 .any (Rows.fnExactPadZerosSpec.pre6 enc Try.prog Try.f8 Rows.fnExactPadZerosRow.domain false) (Rows.fnExactPadZerosSpec.post enc Try.prog Try.f8 false true false false) := by
  refine returnsInHanded_of_change (C := Try.checked) own started (by kernel_rfl) Try.func8
    (ChangeSpec.witness6 (enc := enc) (C := Try.checked) false ⟨#[], #[.string ⟨#[]⟩, .int .i64 0], []⟩ 8 (by kernel_rfl) (by kernel_rfl) (by kernel_rfl) (by kernel_rfl)) ?_
  intro W base args ds gs before hval0 hW _ _
  have hval : ∀ (j : Nat) t v, Try.f8.params[j]? = some t → args[j]? = some v → Value.okWide Try.prog W .any base t v := hval0
  have hW' := hW
  obtain ⟨p, q, hA0, hV, rfl, _, _⟩ := hW
  have hA : DataW.TrodAll enc Try.prog W 0 (fun _ => true) true Try.f8.params.toList args.toList ds p := hA0
  rw [Try.params8] at hA hval
  obtain ⟨v0, vs0, d0, ds0, p0, q0, hargs, rfl, rfl, h0, r0⟩ := trodAll_cons hA
  obtain ⟨v1, vs1, d1, ds1, p1, q1, rfl, rfl, rfl, h1, r1⟩ := trodAll_cons r0
  obtain ⟨rfl, rfl, rfl⟩ := trodAll_nil r1
  obtain rfl : args = #[v0, v1] := by cases args; simp_all
  obtain ⟨a0, rfl, rfl, rfl, g0⟩ := open_string Try.underlying9 (hval 0 9 v0 rfl rfl) h0
  obtain ⟨a1, rfl, rfl, rfl, g1⟩ := open_int Try.underlying3 (hval 1 3 v1 rfl rfl) h1
  refine (law a0 a1 W g0 g1).mono fun e W' ⟨he, hb⟩ => ⟨_, he, ?_⟩
  exact law_post laidOut (by kernel_rfl) rfl (by kernel_rfl) Try.underlying4 rfl rfl rfl hW' hb

theorem holds : Rows.FnExactPadZerosSaid :=
  OpenClaim.holds_of_wide 8 Try.f8 rfl rfl rfl rfl rfl rfl rfl ⟨rfl, rfl, rfl, rfl, rfl⟩ rfl rfl rfl rfl rfl (by kernel_rfl) Try.func8 (by kernel_rfl)
    (of_decide_eq_true (by kernel_rfl)) (by unfold Func.isWrapper; first | (rw [if_pos (by decide +kernel)]; kernel_rfl) | (rw [if_neg (by decide +kernel)]; exact ⟨rfl, rfl⟩))
    (fun os started H enc _ => lifted os started H enc)

end Go.Proofs.Ytpcmiohnhbaciaa.exactPadZeros
