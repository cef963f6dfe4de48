/- For every int, spec.FormatInt returns its decimal numeral: a contract, without a condition. -/
import Derived.Test.YtpcmiohnhbaciaaDoorText
import Derived.Deep.RegionWith
import Derived.Lib.ItoaNum
import Derived.Lib.ItoaLen
namespace Go.Proofs.YtpcmiohnhbaciaaDoor
open Go.RowKit

def numT (n : Int) : ByteArray := ⟨(Lib.itoa n).toArray⟩
def decT (u : Nat) : ByteArray := ⟨(Lib.decDigits u).toArray⟩

theorem numT_nonneg (n : Int) (h : 0 ≤ n) : numT n = decT n.toNat := by
  unfold numT Lib.itoa decT; rw [if_neg (by omega)]
theorem decT_small (u : Nat) (h : u < 10) : decT u = strOfNums [48 + (u : Int)] := by
  unfold decT; rw [Lib.decDigits_one h]; rfl
theorem decT_step (u : Nat) (h : 10 ≤ u) : decT u = decT (u / 10) ++ strOfNums [48 + ((u % 10 : Nat) : Int)] := by
  unfold decT
  rw [Lib.decDigits, dif_neg (by omega)]
  have e : (48 + ((u % 10 : Nat) : Int)).toNat = 48 + u % 10 := by omega
  apply ba_ext
  rw [ByteArray.data_append, Array.toList_append]
  show Lib.decDigits (u / 10) ++ [UInt8.ofNat (48 + u % 10)] = Lib.decDigits (u / 10) ++ [UInt8.ofNat (48 + ((u % 10 : Nat) : Int)).toNat]
  rw [e]
theorem app_assoc (a b c : ByteArray) : (a ++ b) ++ c = a ++ (b ++ c) := by
  apply ba_ext; simp [ByteArray.data_append]
theorem numT_len (n : Int) (h0 : -9223372036854775808 ≤ n) (h1 : n ≤ 9223372036854775807) : (numT n).size ≤ 21 := by
  have := Lib.itoa_length_le n h0 h1
  show (Lib.itoa n).toArray.size ≤ 21
  simpa using this
theorem numT_neg_small (n : Int) (h0 : n < 0) (h1 : -10 < n) : numT n = ⟨#[45]⟩ ++ strOfNums [48 - n] := by
  have hu : n.natAbs < 10 := by omega
  unfold numT Lib.itoa
  rw [if_pos h0, Lib.decDigits_one hu]
  have e : (48 - n).toNat = 48 + n.natAbs := by omega
  apply ba_ext; simp [ByteArray.data_append, strOfNums, e]
theorem numT_neg_step (n : Int) (h0 : n ≤ -10) : numT n = numT (n.tdiv 10) ++ strOfNums [48 - n.tmod 10] := by
  have hd : n.tdiv 10 = -((n.natAbs / 10 : Nat) : Int) := by
    obtain ⟨m, rfl⟩ : ∃ m : Nat, n = -(m : Int) := ⟨n.natAbs, by omega⟩
    rw [Int.neg_tdiv, Int.tdiv_eq_ediv_of_nonneg (by omega)]; omega
  have hr : n.tmod 10 = -((n.natAbs % 10 : Nat) : Int) := by
    obtain ⟨m, rfl⟩ : ∃ m : Nat, n = -(m : Int) := ⟨n.natAbs, by omega⟩
    rw [Int.neg_tmod, Int.tmod_eq_emod_of_nonneg (by omega)]; omega
  have h1 : n.tdiv 10 < 0 := by rw [hd]; omega
  have h2 : (n.tdiv 10).natAbs = n.natAbs / 10 := by rw [hd]; omega
  unfold numT Lib.itoa
  rw [if_pos (by omega), if_pos h1, h2, Lib.decDigits, dif_neg (by omega)]
  have e : (48 - n.tmod 10).toNat = 48 + n.natAbs % 10 := by rw [hr]; omega
  apply ba_ext; simp [ByteArray.data_append, strOfNums, e]

set_option maxHeartbeats 1000000 in
theorem specFormat_pos (n : Int) (w : World) (h0 : 0 ≤ n) (h1 : n ≤ 9223372036854775807) :
    Calls Tryd.prog 14 #[.int .i64 n] w fun e w' => e = .returned (.string (numT n)) ∧ Below w.heap.size w w' := by
  have HL := Lib.hid (numT_len n (by omega) h1)
  have HN := Lib.hid (numT_nonneg n h0)
  go_enter Tryd.func14, Tryd.ntmps14
  go_wp2
  go_loopw [0, 3] (fun i q wr => ∃ (k : Int) (t : ByteArray), 0 ≤ k ∧ k ≤ n ∧ i = .int .i64 k ∧ q = .string t ∧ Hid (numT n = decT k.toNat ++ t) ∧ Below w.heap.size w wr) (fun i _ _ => (intOf i).toNat)
  case atStart => exact ⟨n, _, h0, Int.le_refl _, rfl, rfl, by show _ = _; rw [HN.out]; apply ba_ext; simp [ByteArray.data_append], Below.refl _ _⟩
  case round =>
    obtain ⟨k, t, hk0, hkn, rfl, rfl, he, hb⟩ := hrel
    have htz : t.size ≤ 21 := by
      have h := HL.out; rw [he.out, ByteArray.size_append] at h; omega
    have hsz := hb.size
    by_cases hlt : 9 < k
    · have hcv := conv_one wr (48 + k % 10)
      have hs1 := strOfNums_size [48 + k % 10]
      simp only [List.length_cons, List.length_nil] at hs1
      go_wp2
      go_roundw
      case rel =>
        refine ⟨k / 10, _, by omega, by omega, rfl, rfl, ?_, hb.alloc hsz _⟩
        show _ = _
        rw [he.out, decT_step k.toNat (by omega)]
        have e1 : (k / 10).toNat = k.toNat / 10 := by omega
        have e2 : ((k.toNat % 10 : Nat) : Int) = k % 10 := by omega
        rw [e1, e2, app_assoc]
      case measure => simp [intOf]; omega
    · have hcv := conv_one wr (48 + k)
      have hs1 := strOfNums_size [48 + k]
      simp only [List.length_cons, List.length_nil] at hs1
      go_wp2
      go_ret
      refine ⟨ret_str ?_, hb.alloc hsz _⟩
      rw [he.out, decT_small k.toNat (by omega)]
      have e1 : ((k.toNat : Nat) : Int) = k := by omega
      rw [e1]

theorem conv_at (W : World) (g : Nat) (x : Int) (h : W.cell? ⟨g, 0, none⟩ = some (.int .u8 x)) : (convert 22 9 (.slice (some ⟨g, 0, none⟩) 1 1)).run Tryd.prog W = .ok (.string (strOfNums [x])) W :=
  run_convert_bytes_arg _ 22 5 Tryd.underlying22 Tryd.underlying5 _ 0 1 1 [x] rfl (fun i hi => by
    obtain rfl : i = 0 := by omega
    exact h) 9 Tryd.underlying9


set_option maxHeartbeats 1000000 in
theorem specFormat_neg : ∀ (k : Nat) (n : Int) (w : World), n.natAbs ≤ k → n < 0 → -9223372036854775808 ≤ n →
    Calls Tryd.prog 14 #[.int .i64 n] w fun e w' => e = .returned (.string (numT n)) ∧ Below w.heap.size w w'
  | 0, n, w, hk, h0, _ => by omega
  | k + 1, n, w, hk, h0, h1 => by
    by_cases hs : -10 < n
    · have HN := Lib.hid (numT_neg_small n h0 hs)
      have hq : n.tdiv 10 = 0 := by
        obtain ⟨m, rfl⟩ : ∃ m : Nat, n = -(m : Int) := ⟨n.natAbs, by omega⟩
        rw [Int.neg_tdiv, Int.tdiv_eq_ediv_of_nonneg (by omega)]; omega
      have hcv := conv_one w (48 - n)
      have hs1 := strOfNums_size [48 - n]
      simp only [List.length_cons, List.length_nil] at hs1
      go_enter Tryd.func14, Tryd.ntmps14
      go_wp2
      go_ret
      exact ⟨ret_str HN.out.symm, (Below.refl _ _).alloc (Nat.le_refl _) _⟩
    · have HN := Lib.hid (numT_neg_step n (by omega))
      obtain ⟨q, hq⟩ : ∃ q, n.tdiv 10 = q := ⟨_, rfl⟩
      obtain ⟨r, hr⟩ : ∃ r, n.tmod 10 = r := ⟨_, rfl⟩
      have hq1 : q < 0 ∧ q.natAbs ≤ k ∧ -9223372036854775808 ≤ q ∧ -9 ≤ r ∧ r ≤ 0 := by
        obtain ⟨m, rfl⟩ : ∃ m : Nat, n = -(m : Int) := ⟨n.natAbs, by omega⟩
        rw [Int.neg_tdiv, Int.tdiv_eq_ediv_of_nonneg (by omega)] at hq
        rw [Int.neg_tmod, Int.tmod_eq_emod_of_nonneg (by omega)] at hr
        omega
      obtain ⟨hq1, hq2, hq3, hr1, hr2⟩ := hq1
      have hqz : (q == 0) = false := by rw [beq_eq_false_iff_ne]; omega
      have ih := fun W => specFormat_neg k q W hq2 hq1 hq3
      have HL := numT_len q hq3 (by omega)
      rw [hq, hr] at HN
      have IH := Lib.hid ih
      clear ih
      go_enter Tryd.func14, Tryd.ntmps14
      go_wp2
      have hcv : ∀ W : World, (convert 22 9 (.slice (some ⟨W.heap.size, 0, none⟩) 1 1)).run Tryd.prog (W.alloc (.cells #[.int .u8 (48 - r)] 5)) = .ok (.string (strOfNums [48 - r])) (W.alloc (.cells #[.int .u8 (48 - r)] 5)) := fun W => conv_one W (48 - r)
      have hs1 := strOfNums_size [48 - r]
      simp only [List.length_cons, List.length_nil] at hs1
      have hw1 : IntKind.i64.wrap q = q := IntWalk.i64_in _ (by omega)
      have hw2 : IntKind.i64.wrap (48 - r) = 48 - r := IntWalk.i64_in _ (by omega)
      have hw3 : IntKind.u8.wrap (48 - r) = 48 - r := IntWalk.u8_in _ (by omega)
      have hcd : (convert 22 9 (.slice (some ⟨w.heap.size, 0, none⟩) 1 1)).run Tryd.prog ((w.alloc (.cells #[.int .u8 (48 - r)] 5)).drew) = .ok (.string (strOfNums [48 - r])) ((w.alloc (.cells #[.int .u8 (48 - r)] 5)).drew) := conv_at _ _ _ (one_cell w _ _)
      go_region_with (first | (go_at_call 14; ((with_reducible refine (IH.out _).mono ?_); rintro e w1 ⟨rfl, hb⟩; first | (have hc3 := conv_at w1 w.heap.size (48 - r) ((hb.cell (p := ⟨w.heap.size, 0, none⟩) (by simp)).trans (one_cell w _ _))) | skip)))
      all_goals (go_wp2; go_ret; refine ⟨ret_str HN.out.symm, ?_⟩)
      all_goals first
        | exact Below.alloc (B := w.heap.size) ((Below.refl w.heap.size w).drew.trans hb) hb.size _
        | exact ((Below.refl w.heap.size w).alloc (Nat.le_refl _) _).drew.trans (hb.mono (by simp))

theorem specFormat (n : Int) (w : World) (h0 : -9223372036854775808 ≤ n) (h1 : n ≤ 9223372036854775807) :
    Calls Tryd.prog 14 #[.int .i64 n] w fun e w' => e = .returned (.string (numT n)) ∧ Below w.heap.size w w' := by
  by_cases hn : 0 ≤ n
  · exact specFormat_pos n w hn h1
  · exact specFormat_neg n.natAbs n w (Nat.le_refl _) (by omega) h0

end Go.Proofs.YtpcmiohnhbaciaaDoor
