/- The law FnWaves holds for all bytes: a wave is periodic, changes its sign after half a period and reaches its top after a quarter; the bytes read as before. No condition. -/
import Derived.Test.YtflomhldeecojaaRows
import Derived.Test.YtflomhldeecojaaWave
import Derived.Test.YtflomhldeecojaaCodeArg
namespace Go.Proofs.Ytflomhldeecojaa.lawWaves
open Go.ChangeShapes Go.WideShapes Go.ChangeAt Go.RowKit

theorem own : ownKnob Try.prog.godebug = none := by kernel_rfl
theorem laidOut : laidOutB Try.prog = true := by kernel_rfl

theorem per_of {p : Int} (k : Int) (h0 : 1 ≤ k) (h1 : k ≤ 700) (hp : p = 4 * k) : perB p = true := perB_mk (by omega)
theorem wave_next (n p : Int) : waveI (n + p) p = waveI n p := by
  unfold waveI
  rw [Int.add_emod_right]
theorem wave_half (n p : Int) (hp : perB p = true) : waveI (n + p / 2) p = -waveI n p := by
  obtain ⟨p0, p1, p2⟩ := perB_true hp
  have m0 := Int.emod_nonneg n (b := p) (by omega)
  have m1 := Int.emod_lt_of_pos n (b := p) (by omega)
  have e : (n + p / 2) % p = (n % p + p / 2) % p := by rw [Int.emod_add_emod]
  by_cases hx : n % p < p / 2
  · have e2 : (n % p + p / 2) % p = n % p + p / 2 := Int.emod_eq_of_lt (by omega) (by omega)
    rw [waveI_up hp hx, waveI_down hp (by rw [e, e2]; omega), e, e2]
    congr 2
    omega
  · have e2 : (n % p + p / 2) % p = n % p - p / 2 := by
      have : n % p + p / 2 = (n % p - p / 2) + p := by omega
      rw [this, Int.add_emod_right]
      exact Int.emod_eq_of_lt (by omega) (by omega)
    rw [waveI_down hp hx, waveI_up hp (by rw [e, e2]; omega), e, e2, Int.neg_neg]
theorem wave_zero (p : Int) (hp : perB p = true) : waveI 0 p = 0 := by
  obtain ⟨p0, p1, p2⟩ := perB_true hp
  have e : (0 : Int) % p = 0 := Int.zero_emod p
  rw [waveI_up hp (by rw [e]; omega), e]
  unfold crest
  simp
theorem wave_top (k : Int) (hp : perB (4 * k) = true) : waveI k (4 * k) = 10000 := by
  obtain ⟨p0, p1, p2⟩ := perB_true hp
  have h : 4 * k / 2 = 2 * k := by omega
  have e : k % (4 * k) = k := Int.emod_eq_of_lt (by omega) (by omega)
  rw [waveI_up hp (by rw [e, h]; omega), e, h]
  unfold crest
  have hk : 0 < k * k := Int.mul_pos (by omega) (by omega)
  have n1 : 40000 * k * (2 * k - k) = 10000 * (2 * k * (2 * k)) := by
    have : 2 * k - k = k := by omega
    rw [this, Int.mul_assoc, Int.mul_assoc 2 k (2 * k), Int.mul_left_comm k 2 k]
    omega
  rw [n1]
  refine Int.mul_ediv_cancel _ ?_
  have : 2 * k * (2 * k) = 4 * (k * k) := by rw [Int.mul_assoc, Int.mul_left_comm k 2 k]; omega
  omega

set_option maxHeartbeats 1000000 in
theorem law (A : Option Addr) (n c : Nat) (w : World) (hcode : n ≤ maxLen ∧ (n ≤ 1048576 → CodeAt w A n)) :
    Calls Try.prog 3 #[.slice A n c] w fun e w' => e = .returned (.bool true) ∧ Below w.heap.size w w' := by
  obtain ⟨hn, hcode⟩ := hcode
  have HC := Lib.hid hcode
  clear hcode
  unfold maxLen at hn
  by_cases hbig : 1048576 < n
  · go_enter Try.func3, Try.ntmps3
    go_wp2
    go_ret
    exact ⟨rfl, Below.refl _ _⟩
  · have HC0 := Lib.hid (HC.out (by omega))
    clear HC
    go_enter Try.func3, Try.ntmps3
    go_wp2_with fail
    refine (makeNum_any A n c 1 w HC0.out (by omega)).mono ?_
    rintro e w1 ⟨x, rfl, x0, x1, hb1⟩
    have HC1 := Lib.hid (HC0.out.below hb1)
    have B1 := Lib.hid hb1
    clear hb1
    go_wp2_with fail
    refine (makeNum_any A n c 3 w1 HC1.out (by omega)).mono ?_
    rintro e w2 ⟨y, rfl, y0, y1, hb2⟩
    have B2 := Lib.hid (B1.out.trans (hb2.mono B1.out.size))
    clear hb2 B1
    have hper := Lib.hid (per_of (p := 4 * (1 + x % 700)) (1 + x % 700) (by omega) (by omega) rfl)
    go_wp2_with fail
    refine (implWave (y - 30000) (4 * (1 + x % 700)) w2).mono ?_
    rintro e w3 ⟨rfl, rfl⟩
    have hl := waveI_le (y - 30000) (4 * (1 + x % 700))
    obtain ⟨hl0, hl1⟩ := hl
    go_wp2_with fail
    refine (implWave _ _ w2).mono ?_
    rintro e w3 ⟨rfl, rfl⟩
    rw [wave_next]
    go_wp2_with fail
    refine (implWave _ _ w2).mono ?_
    rintro e w3 ⟨rfl, rfl⟩
    rw [wave_half _ _ hper.out]
    go_wp2_with fail
    refine (implWave _ _ w2).mono ?_
    rintro e w3 ⟨rfl, rfl⟩
    rw [wave_top _ hper.out]
    go_wp2_with fail
    refine (implWave _ _ w2).mono ?_
    rintro e w3 ⟨rfl, rfl⟩
    rw [wave_zero _ hper.out]
    go_wp2
    go_ret
    exact ⟨rfl, B2.out⟩

set_option maxRecDepth 100000 in
theorem lifted (os : Os) (started : os.Started) (H : Type) (enc : TypeId × Value → H) :
    ReturnsInHanded {} Try.checked os 3 .any (Rows.fnWavesSpec.pre6 enc Try.prog Try.f3 Rows.fnWavesRow.domain false) (Rows.fnWavesSpec.post enc Try.prog Try.f3 false true false false) := by
  refine returnsInHanded_of_change (C := Try.checked) own started (by kernel_rfl) Try.func3
    (ChangeSpec.witness6 (enc := enc) (C := Try.checked) false ⟨#[], #[.slice none 0 0], []⟩ 8 (by kernel_rfl) (by kernel_rfl) (by kernel_rfl) (by kernel_rfl)) ?_
  intro W base args ds gs before hval0 hW _ _
  have hval : ∀ (j : Nat) t v, Try.f3.params[j]? = some t → args[j]? = some v → Value.okWide Try.prog W .any base t v := hval0
  have hW' := hW
  obtain ⟨p, q, hA0, hV, rfl, _, _⟩ := hW
  have hA : DataW.TrodAll enc Try.prog W 0 (fun _ => true) true Try.f3.params.toList args.toList ds p := hA0
  rw [Try.params3] at hA hval
  obtain ⟨v0, vs0, d0, ds0, p0, q0, hargs, rfl, rfl, h0, r0⟩ := trodAll_cons hA
  obtain ⟨rfl, rfl, rfl⟩ := trodAll_nil r0
  obtain rfl : args = #[v0] := by cases args; simp_all
  obtain ⟨A0, n0, c0, rfl, g0⟩ := open_code_arg (hval 0 22 v0 rfl rfl) h0
  refine (law A0 n0 c0 W g0).mono fun e W' ⟨he, hb⟩ => ⟨_, he, ?_⟩
  exact law_post laidOut (by kernel_rfl) rfl (by kernel_rfl) Try.underlying4 rfl rfl rfl hW' hb

theorem holds : Rows.FnWavesSaid :=
  OpenClaim.holds_of_wide 3 Try.f3 rfl rfl rfl rfl rfl rfl rfl ⟨rfl, rfl, rfl, rfl, rfl⟩ rfl rfl rfl rfl rfl (by kernel_rfl) Try.func3 (by kernel_rfl)
    (of_decide_eq_true (by kernel_rfl)) (by unfold Func.isWrapper; first | (rw [if_pos (by decide +kernel)]; kernel_rfl) | (rw [if_neg (by decide +kernel)]; exact ⟨rfl, rfl⟩))
    (fun os started H enc _ => lifted os started H enc)

end Go.Proofs.Ytflomhldeecojaa.lawWaves
