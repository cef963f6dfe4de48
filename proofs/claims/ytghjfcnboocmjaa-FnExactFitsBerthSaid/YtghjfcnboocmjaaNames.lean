
/- For every string, spec.IsName tells what impl.IsName tells: a contract, without a condition but the string's own length bound. -/
import Derived.Test.YtghjfcnboocmjaaNamesImpl
namespace Go.Proofs.Ytghjfcnboocmjaa
open Go.RowKit

theorem l01In_nm (n lo hi : Int) (w : World) :
    Calls Try.prog 65 #[.int .i64 n, .int .i64 lo, .int .i64 hi] w fun e w' => e = .returned (.bool (nmIn n lo hi)) ∧ w = w' := by
  by_cases h1 : lo ≤ n
  · by_cases h2 : n ≤ hi
    · have hn := Lib.hid (show nmIn n lo hi = true from decide_eq_true ⟨h1, h2⟩)
      go_enter Try.func65, Try.ntmps65
      go_wp2
      go_ret
      exact ⟨ret_bool hn.out.symm, rfl⟩
    · have hn := Lib.hid (show nmIn n lo hi = false from decide_eq_false fun h => h2 h.2)
      go_enter Try.func65, Try.ntmps65
      go_wp2
      go_ret
      exact ⟨ret_bool hn.out.symm, rfl⟩
  · have hn := Lib.hid (show nmIn n lo hi = false from decide_eq_false fun h => h1 h.1)
    go_enter Try.func65, Try.ntmps65
    go_wp2
    go_ret
    exact ⟨ret_bool hn.out.symm, rfl⟩

set_option maxHeartbeats 1000000 in
theorem specIsName (s : ByteArray) (w : World) (hs : s.size ≤ maxLen) :
    Calls Try.prog 64 #[.string s] w fun e w' => e = .returned (.bool (nameB s)) ∧ w = w' := by
  unfold maxLen at hs
  go_enter Try.func64, Try.ntmps64
  go_wp2
  go_loop [3] (fun i => ∃ k : Nat, k ≤ s.size ∧ i = .int .i64 k ∧ Hid (preB (s.data.toList.take k) = true)) (fun i => s.size - (intOf i).toNat)
  case atStart => exact ⟨0, Nat.zero_le _, rfl, rfl⟩
  case round =>
    obtain ⟨k, hk, rfl, hd⟩ := hrel
    by_cases hlt : k < s.size
    · have hst := Lib.hid (nm_step s k hlt hd.out)
      by_cases h1 : 97 ≤ (s[k].toNat : Int) ∧ (s[k].toNat : Int) ≤ 122
      · obtain ⟨h1, h2⟩ := h1
        have hy := Lib.hid (hst.out.trans (nmAt_letter k h1 h2))
        clear hst
        go_wp2
        go_round
        case rel => exact ⟨k + 1, by omega, by go_num, hy⟩
        case measure => simp [intOf]; omega
      · have hl : (s[k].toNat : Int) < 97 ∨ 122 < (s[k].toNat : Int) := by omega
        by_cases hd2 : (48 ≤ (s[k].toNat : Int) ∧ (s[k].toNat : Int) ≤ 57) ∧ k ≠ 0
        · obtain ⟨⟨h3, h4⟩, h5⟩ := hd2
          have hy := Lib.hid (hst.out.trans (nmAt_digit h5 h3 h4))
          have h97 : ¬ 97 ≤ (s[k].toNat : Int) := by omega
          have hz : ((k : Int) == 0) = false := by simpa using h5
          clear hst hl h1 h5
          go_wp2
          go_round
          case rel => exact ⟨k + 1, by omega, by go_num, hy⟩
          case measure => simp [intOf]; omega
        · have hno : nmAt k (s[k].toNat : Int) = false := by
            by_cases hk0 : k = 0
            · subst hk0; exact nmAt_zero hl
            · exact nmAt_other k hl (by omega)
          have hn := Lib.hid (nm_not s k hlt hno)
          clear hst hno
          have hcase : (k = 0) ∨ (k ≠ 0 ∧ ((s[k].toNat : Int) < 48 ∨ 57 < (s[k].toNat : Int))) := by omega
          clear hd2 h1
          rcases hl with hl | hl
          · have h97 : ¬ 97 ≤ (s[k].toNat : Int) := by omega
            rcases hcase with h0 | ⟨h0, hq | hq⟩
            · have hz : ((k : Int) == 0) = true := by simpa using h0
              clear h0
              go_wp2
              go_ret
              exact ⟨ret_bool hn.out.symm, rfl⟩
            · have hz : ((k : Int) == 0) = false := by simpa using h0
              clear h0
              go_wp2
              go_ret
              exact ⟨ret_bool hn.out.symm, rfl⟩
            · have hz : ((k : Int) == 0) = false := by simpa using h0
              have hq' : ¬ (s[k].toNat : Int) < 48 := by omega
              clear h0
              go_wp2
              go_ret
              exact ⟨ret_bool hn.out.symm, rfl⟩
          · have h97 : 97 ≤ (s[k].toNat : Int) := by omega
            have h122 : ¬ (s[k].toNat : Int) ≤ 122 := by omega
            have h48 : ¬ (s[k].toNat : Int) < 48 := by omega
            have h57 : 57 < (s[k].toNat : Int) := by omega
            clear hcase
            by_cases h0 : k = 0
            · have hz : ((k : Int) == 0) = true := by simpa using h0
              clear h0
              go_wp2
              go_ret
              exact ⟨ret_bool hn.out.symm, rfl⟩
            · have hz : ((k : Int) == 0) = false := by simpa using h0
              clear h0
              go_wp2
              go_ret
              exact ⟨ret_bool hn.out.symm, rfl⟩
    · have hn := Lib.hid (nm_end s k (by omega) hd.out)
      go_wp2_with (go_at_call 65; refine (l01In_nm _ _ _ _).mono ?_; rintro e w' ⟨rfl, rfl⟩)
      go_ret
      exact ⟨ret_bool (Eq.trans (show nmIn (s.size : Int) 1 8 = decide (1 ≤ s.size ∧ s.size ≤ 8) from decide_eq_decide.2 (by omega)) hn.out.symm), rfl⟩

end Go.Proofs.Ytghjfcnboocmjaa
