/- For every string of at most 1048576 bytes, spec.ParseInt returns the int that the string spells, and true; or 0 and false: a contract. -/
import Derived.Test.YtpcmiohnhbaciaaDoorParse
import Derived.Test.YtpcmiohnhbaciaaDoorDigits
namespace Go.Proofs.YtpcmiohnhbaciaaDoor
open Go.RowKit

theorem specL_none {l : List UInt8} (h : ¬ (dgAll (bodyL l) = true ∧ bodyL l ≠ [] ∧ (bodyL l).length ≤ 19)) : specL l = none := by
  unfold specL; rw [if_neg h]
theorem specL_some {l : List UInt8} (h : dgAll (bodyL l) = true ∧ bodyL l ≠ [] ∧ (bodyL l).length ≤ 19) : specL l = (accM 0 (bodyL l)).bind (readM l) := by
  unfold specL; rw [if_pos h]
theorem digitsB_body {t : ByteArray} (h : digitsB t = true) : dgAll t.data.toList = true ∧ t.data.toList ≠ [] := by
  unfold digitsB at h
  rw [Bool.and_eq_true] at h
  refine ⟨h.1, fun e => ?_⟩
  have h2 := of_decide_eq_true h.2
  have h3 : t.size = t.data.toList.length := rfl
  rw [e, List.length_nil] at h3
  omega
theorem digitsB_nobody {t : ByteArray} (h : digitsB t = false) : ¬ (dgAll t.data.toList = true ∧ t.data.toList ≠ [] ∧ t.data.toList.length ≤ 19) := by
  rintro ⟨h1, h2, _⟩
  unfold digitsB at h
  rw [h1, Bool.true_and] at h
  have h3 := of_decide_eq_false h
  have h4 : t.size = t.data.toList.length := rfl
  exact h2 (List.eq_nil_of_length_eq_zero (by omega))
theorem dg_at {t : ByteArray} (h : dgAll t.data.toList = true) (k : Nat) (hk : k < t.size) : 48 ≤ ((t[k].toNat : Nat) : Int) ∧ ((t[k].toNat : Nat) : Int) ≤ 57 := by
  unfold dgAll at h
  have := List.all_eq_true.1 h t[k] (mem_at t k hk)
  unfold dgI at this
  exact of_decide_eq_true this
theorem drop_at (t : ByteArray) (k : Nat) (hk : k < t.size) : t.data.toList.drop k = t[k] :: t.data.toList.drop (k + 1) := by
  rw [List.drop_eq_getElem_cons (by simpa using hk)]; rfl
theorem accM_step {t : ByteArray} {a k : Nat} (hk : k < t.size) (h : accM a (t.data.toList.drop k) = accM 0 t.data.toList) (hle : a * 10 + (t[k].toNat - 48) ≤ 9223372036854775808) :
    accM (a * 10 + (t[k].toNat - 48)) (t.data.toList.drop (k + 1)) = accM 0 t.data.toList := by
  rw [← h, drop_at t k hk, accM, if_neg (by omega)]
theorem accM_stop {t : ByteArray} {a k : Nat} (hk : k < t.size) (h : accM a (t.data.toList.drop k) = accM 0 t.data.toList) (hgt : 9223372036854775808 < a * 10 + (t[k].toNat - 48)) : accM 0 t.data.toList = none := by
  rw [← h, drop_at t k hk, accM, if_pos hgt]
theorem accM_over {t : ByteArray} {a k : Nat} (hk : t.size ≤ k) (h : accM a (t.data.toList.drop k) = accM 0 t.data.toList) : accM 0 t.data.toList = some a := by
  rw [← h, List.drop_eq_nil_of_le (by simpa using hk), accM]
theorem tdiv_min (x : Int) (h0 : 0 ≤ x) (h1 : x ≤ 9) : (-9223372036854775808 + x).tdiv 10 = -((9223372036854775808 - x) / 10) := by
  have e : -9223372036854775808 + x = -(9223372036854775808 - x) := by omega
  rw [e, Int.neg_tdiv, Int.tdiv_eq_ediv_of_nonneg (by omega)]
theorem over_yes {a c : Nat} (h0 : 48 ≤ (c : Int)) (h1 : (c : Int) ≤ 57) (h : 9223372036854775808 < a * 10 + (c - 48)) : -(a : Int) < (-9223372036854775808 + ((c : Int) - 48)).tdiv 10 := by
  rw [tdiv_min _ (by omega) (by omega)]; omega
theorem over_no {a c : Nat} (h0 : 48 ≤ (c : Int)) (h1 : (c : Int) ≤ 57) (h : a * 10 + (c - 48) ≤ 9223372036854775808) : (-9223372036854775808 + ((c : Int) - 48)).tdiv 10 ≤ -(a : Int) := by
  rw [tdiv_min _ (by omega) (by omega)]; omega
theorem str_ne {a b : ByteArray} (h : a ≠ b) : (a.toList == b.toList) = false := by
  rw [beq_eq_false_iff_ne, ByteArray.toList_eq, ByteArray.toList_eq]
  exact fun e => h (ba_ext e)
theorem readM_top {l : List UInt8} (h : negB l = false) : readM l 9223372036854775808 = none := by
  unfold readM; rw [if_pos ⟨h, rfl⟩]
theorem readM_pos {l : List UInt8} {a : Nat} (h : negB l = false) (ha : a ≠ 9223372036854775808) : readM l a = if Lib.itoa (a : Int) = l then some (a : Int) else none := by
  unfold readM valM; rw [if_neg (fun x => ha x.2), h]; simp
theorem readM_neg {l : List UInt8} {a : Nat} (h : negB l = true) : readM l a = if Lib.itoa (-(a : Int)) = l then some (-(a : Int)) else none := by
  unfold readM valM; rw [if_neg (by simp [h]), h]; simp

set_option maxHeartbeats 2000000 in
theorem specParse_plain (s : ByteArray) (w : World) (hs : s.size ≤ 1048576) (h0 : 0 < s.size) (hm : ((s[0].toNat : Nat) : Int) ≠ 45) (hb : bodyL s.data.toList = s.data.toList) (hneg : negB s.data.toList = false) :
    Calls Tryd.prog 15 #[.string s] w (ParseOut (specL s.data.toList) w) := by
  have hmb : (((s[0].toNat : Nat) : Int) == 45) = false := by rw [beq_eq_false_iff_ne]; exact hm
  have h0i : (0 : Int) < (s.size : Int) := by omega
  have HB := Lib.hid hb
  have HN := Lib.hid hneg
  clear hb hneg hm
  go_enter Tryd.func15, Tryd.ntmps15
  go_wp2_with fail
  refine (specIsDigits s w (by unfold maxLen; omega)).mono ?_
  rintro e w1 ⟨rfl, rfl⟩
  cases hd : digitsB s
  · have HR : Hid (specL s.data.toList = none) := specL_none (by rw [HB.out]; exact digitsB_nobody hd)
    go_wp2
    go_ret2
    exact ⟨by rw [HR.out]; rfl, Below.refl _ _⟩
  · obtain ⟨hd1, hd2⟩ := digitsB_body hd
    by_cases h19 : 19 < s.size
    · have HR : Hid (specL s.data.toList = none) := specL_none (by rw [HB.out]; rintro ⟨_, _, h⟩; have : s.size = s.data.toList.length := rfl; omega)
      clear hd1 hd2
      go_wp2
      go_ret2
      exact ⟨by rw [HR.out]; rfl, Below.refl _ _⟩
    · have HR : Hid (specL s.data.toList = (accM 0 s.data.toList).bind (readM s.data.toList)) := by
        have h := specL_some (l := s.data.toList) (by rw [HB.out]; exact ⟨hd1, hd2, by have : s.size = s.data.toList.length := rfl; omega⟩)
        rw [HB.out] at h
        exact h
      have HD := Lib.hid hd1
      clear hmb hd1 hd2
      go_wp2
      go_loop [6, 7] (fun q i => ∃ k a : Nat, k ≤ s.size ∧ i = .int .i64 k ∧ q = .int .i64 (-(a : Int)) ∧ (a : Int) ≤ 9223372036854775808 ∧ Hid (accM a (s.data.toList.drop k) = accM 0 s.data.toList)) (fun _ i => s.size - (intOf i).toNat)
      case atStart => exact ⟨0, 0, Nat.zero_le _, rfl, rfl, by omega, rfl⟩
      case round =>
        obtain ⟨k, a, hk, rfl, rfl, ha, hacc⟩ := hrel
        by_cases hlt : k < s.size
        · obtain ⟨hdg1, hdg2⟩ := dg_at HD.out k hlt
          by_cases hov : 9223372036854775808 < a * 10 + (s[k].toNat - 48)
          · have HS := Lib.hid (HR.out.trans (congrArg (·.bind (readM s.data.toList)) (accM_stop hlt hacc.out hov)))
            have ht := over_yes hdg1 hdg2 hov
            clear hov
            go_wp2
            go_ret2
            exact ⟨by rw [HS.out]; rfl, Below.refl _ _⟩
          · have hle : a * 10 + (s[k].toNat - 48) ≤ 9223372036854775808 := by omega
            have HA := Lib.hid (accM_step hlt hacc.out hle)
            have ht := over_no hdg1 hdg2 hle
            have hle2 : (a : Int) * 10 + (((s[k].toNat : Nat) : Int) - 48) ≤ 9223372036854775808 := by omega
            have hcast : Hid ((-(a : Int) * 10 - (((s[k].toNat : Nat) : Int) - 48)) = -((a * 10 + (s[k].toNat - 48) : Nat) : Int)) := by show _ = _; omega
            clear hov hle
            go_wp2
            go_round
            case rel => exact ⟨k + 1, a * 10 + (s[k].toNat - 48), by omega, by go_num, by rw [hcast.out], by omega, HA⟩
            case measure => simp [intOf]; omega
        · have HS := Lib.hid (HR.out.trans (congrArg (·.bind (readM s.data.toList)) (accM_over (by omega) hacc.out)))
          by_cases hmin : a = 9223372036854775808
          · have HF : Hid (specL s.data.toList = none) := by rw [HS.out, hmin]; exact readM_top HN.out
            have hbq : (-(a : Int) == -9223372036854775808) = true := by rw [beq_iff_eq]; omega
            clear hmin
            go_wp2
            go_ret2
            exact ⟨by rw [HF.out]; rfl, Below.refl _ _⟩
          · have HF : Hid (specL s.data.toList = if Lib.itoa (a : Int) = s.data.toList then some (a : Int) else none) := by rw [HS.out]; exact readM_pos HN.out hmin
            have hbq : (-(a : Int) == -9223372036854775808) = false := by rw [beq_eq_false_iff_ne]; omega
            have hmax : (a : Int) ≤ 9223372036854775807 := by omega
            clear hmin
            go_wp2_with fail
            refine (specFormat (a : Int) w (by omega) hmax).mono ?_
            rintro e w2 ⟨rfl, hb2⟩
            by_cases heq : numT (a : Int) = s
            · have hI := Lib.hid (HF.out.trans (if_pos ((numT_eq _ s).1 heq)))
              have hE : ((numT (a : Int)).toList == s.toList) = true := by rw [heq]; simp
              clear heq
              go_wp2
              go_ret2
              exact ⟨by rw [hI.out]; rfl, hb2⟩
            · have hI := Lib.hid (HF.out.trans (if_neg (fun h => heq ((numT_eq _ s).2 h))))
              have hE := str_ne heq
              clear heq
              go_wp2
              go_ret2
              exact ⟨by rw [hI.out]; rfl, hb2⟩

set_option maxHeartbeats 2000000 in
theorem specParse_neg (s : ByteArray) (w : World) (hs : s.size ≤ 1048576) (h0 : 0 < s.size) (hm : ((s[0].toNat : Nat) : Int) = 45) (hb : bodyL s.data.toList = (s.extract 1 s.size).data.toList) (hneg : negB s.data.toList = true) :
    Calls Tryd.prog 15 #[.string s] w (ParseOut (specL s.data.toList) w) := by
  have hmb : (((s[0].toNat : Nat) : Int) == 45) = true := by rw [beq_iff_eq]; exact hm
  have h0i : (0 : Int) < (s.size : Int) := by omega
  have h1i : (1 : Int) ≤ (s.size : Int) := by omega
  have htz : (s.extract 1 s.size).size ≤ 1048576 := by rw [ByteArray.size_extract]; omega
  have HB := Lib.hid hb
  have HN := Lib.hid hneg
  clear hb hneg hm
  go_enter Tryd.func15, Tryd.ntmps15
  go_wp2_with fail
  generalize s.extract 1 s.size = t at *
  refine (specIsDigits t w (by unfold maxLen; omega)).mono ?_
  rintro e w1 ⟨rfl, rfl⟩
  cases hd : digitsB t
  · have HR : Hid (specL s.data.toList = none) := specL_none (by rw [HB.out]; exact digitsB_nobody hd)
    go_wp2
    go_ret2
    exact ⟨by rw [HR.out]; rfl, Below.refl _ _⟩
  · obtain ⟨hd1, hd2⟩ := digitsB_body hd
    by_cases h19 : 19 < t.size
    · have HR : Hid (specL s.data.toList = none) := specL_none (by rw [HB.out]; rintro ⟨_, _, h⟩; have : t.size = t.data.toList.length := rfl; omega)
      clear hd1 hd2
      go_wp2
      go_ret2
      exact ⟨by rw [HR.out]; rfl, Below.refl _ _⟩
    · have HR : Hid (specL s.data.toList = (accM 0 t.data.toList).bind (readM s.data.toList)) := by
        have h := specL_some (l := s.data.toList) (by rw [HB.out]; exact ⟨hd1, hd2, by have : t.size = t.data.toList.length := rfl; omega⟩)
        rw [HB.out] at h
        exact h
      have HD := Lib.hid hd1
      clear hmb hd1 hd2
      go_wp2
      go_loop [6, 7] (fun q i => ∃ k a : Nat, k ≤ t.size ∧ i = .int .i64 k ∧ q = .int .i64 (-(a : Int)) ∧ (a : Int) ≤ 9223372036854775808 ∧ Hid (accM a (t.data.toList.drop k) = accM 0 t.data.toList)) (fun _ i => t.size - (intOf i).toNat)
      case atStart => exact ⟨0, 0, Nat.zero_le _, rfl, rfl, by omega, rfl⟩
      case round =>
        obtain ⟨k, a, hk, rfl, rfl, ha, hacc⟩ := hrel
        by_cases hlt : k < t.size
        · obtain ⟨hdg1, hdg2⟩ := dg_at HD.out k hlt
          by_cases hov : 9223372036854775808 < a * 10 + (t[k].toNat - 48)
          · have HS := Lib.hid (HR.out.trans (congrArg (·.bind (readM s.data.toList)) (accM_stop hlt hacc.out hov)))
            have ht := over_yes hdg1 hdg2 hov
            clear hov
            go_wp2
            go_ret2
            exact ⟨by rw [HS.out]; rfl, Below.refl _ _⟩
          · have hle : a * 10 + (t[k].toNat - 48) ≤ 9223372036854775808 := by omega
            have HA := Lib.hid (accM_step hlt hacc.out hle)
            have ht := over_no hdg1 hdg2 hle
            have hle2 : (a : Int) * 10 + (((t[k].toNat : Nat) : Int) - 48) ≤ 9223372036854775808 := by omega
            have hcast : Hid ((-(a : Int) * 10 - (((t[k].toNat : Nat) : Int) - 48)) = -((a * 10 + (t[k].toNat - 48) : Nat) : Int)) := by show _ = _; omega
            clear hov hle
            go_wp2
            go_round
            case rel => exact ⟨k + 1, a * 10 + (t[k].toNat - 48), by omega, by go_num, by rw [hcast.out], by omega, HA⟩
            case measure => simp [intOf]; omega
        · have HS := Lib.hid (HR.out.trans (congrArg (·.bind (readM s.data.toList)) (accM_over (by omega) hacc.out)))
          have HF : Hid (specL s.data.toList = if Lib.itoa (-(a : Int)) = s.data.toList then some (-(a : Int)) else none) := by rw [HS.out]; exact readM_neg HN.out
          go_wp2_with fail
          refine (specFormat (-(a : Int)) w (by omega) (by omega)).mono ?_
          rintro e w2 ⟨rfl, hb2⟩
          by_cases heq : numT (-(a : Int)) = s
          · have hI := Lib.hid (HF.out.trans (if_pos ((numT_eq _ s).1 heq)))
            have hE : ((numT (-(a : Int))).toList == s.toList) = true := by rw [heq]; simp
            clear heq
            go_wp2
            go_ret2
            exact ⟨by rw [hI.out]; rfl, hb2⟩
          · have hI := Lib.hid (HF.out.trans (if_neg (fun h => heq ((numT_eq _ s).2 h))))
            have hE := str_ne heq
            clear heq
            go_wp2
            go_ret2
            exact ⟨by rw [hI.out]; rfl, hb2⟩

set_option maxHeartbeats 1000000 in
theorem specParse_empty (s : ByteArray) (w : World) (h0 : s.size = 0) :
    Calls Tryd.prog 15 #[.string s] w (ParseOut (specL s.data.toList) w) := by
  have hnil : s.data.toList = [] := List.eq_nil_of_length_eq_zero h0
  have HR : Hid (specL s.data.toList = none) := by rw [hnil]; exact specL_none (by rintro ⟨_, h, _⟩; exact h rfl)
  have hd : digitsB s = false := by unfold digitsB; rw [decide_eq_false (by omega), Bool.and_false]
  have h0i : ¬ (0 : Int) < (s.size : Int) := by omega
  clear hnil
  go_enter Tryd.func15, Tryd.ntmps15
  go_wp2_with fail
  refine (specIsDigits s w (by unfold maxLen; omega)).mono ?_
  rintro e w1 ⟨rfl, rfl⟩
  go_wp2
  go_ret2
  exact ⟨by rw [HR.out]; rfl, Below.refl _ _⟩

theorem specParse (s : ByteArray) (w : World) (hs : s.size ≤ 1048576) :
    Calls Tryd.prog 15 #[.string s] w (ParseOut (specL s.data.toList) w) := by
  rcases Nat.eq_zero_or_pos s.size with h0 | h0
  · exact specParse_empty s w h0
  · have hl : s.data.toList = s[0] :: s.data.toList.drop 1 := by
      have := drop_at s 0 h0
      simpa using this
    by_cases hm : ((s[0].toNat : Nat) : Int) = 45
    · have e45 : s[0] = 45 := UInt8.toNat_inj.1 (by show _ = 45; omega)
      have hneg : negB s.data.toList = true := by rw [hl, e45]; rfl
      have hb : bodyL s.data.toList = (s.extract 1 s.size).data.toList := by
        unfold bodyL
        rw [if_pos hneg]
        simp [ByteArray.data_extract]
        rw [List.take_of_length_le (by rw [List.length_tail]; exact Nat.le_refl _)]
      exact specParse_neg s w hs h0 hm hb hneg
    · have hneg : negB s.data.toList = false := by
        rw [hl]
        unfold negB
        simp only [List.head?_cons, beq_eq_false_iff_ne, ne_eq, Option.some.injEq]
        intro e
        rw [e] at hm
        exact hm rfl
      have hb : bodyL s.data.toList = s.data.toList := by unfold bodyL; rw [if_neg (by simp [hneg])]
      exact specParse_plain s w hs h0 hm hb hneg

end Go.Proofs.YtpcmiohnhbaciaaDoor
