/- For all strings, spec.SplitAny returns a new list of the strings that 'splitL' names: a contract, for strings of at most 1048576 bytes. -/
import Derived.Test.YtpcmiohnhbaciaaSplit
import Derived.Test.YtpcmiohnhbaciaaHeld
namespace Go.Proofs.Ytpcmiohnhbaciaa
open Go.RowKit

def noneB (by_ : ByteArray) (c : UInt8) (j : Nat) : Prop := ∀ i, (h : i < by_.size) → i < j → by_[i] ≠ c
theorem cut_yes (by_ : ByteArray) (c : UInt8) (j : Nat) (h : j < by_.size) (e : by_[j] = c) : cutB by_ c = true := by
  unfold cutB
  rw [List.contains_iff_mem]
  rw [← e]; exact mem_at by_ j h
theorem cut_no (by_ : ByteArray) (c : UInt8) (j : Nat) (hj : by_.size ≤ j) (h : noneB by_ c j) : cutB by_ c = false := by
  unfold cutB
  rw [Bool.eq_false_iff]
  intro hc
  rw [List.contains_iff_mem, List.mem_iff_getElem] at hc
  obtain ⟨i, hi, e⟩ := hc
  have hi' : i < by_.size := hi
  exact h i hi' (by omega) e
theorem none_next (by_ : ByteArray) (c : UInt8) (j : Nat) (hj : j < by_.size) (h : noneB by_ c j) (e : by_[j] ≠ c) : noneB by_ c (j + 1) := by
  intro i hi hij
  by_cases hie : i = j
  · subst hie; exact e
  · exact h i hi (by omega)

set_option maxHeartbeats 2000000 in
theorem specSplitAny (s by_ : ByteArray) (w : World) (hs : s.size ≤ 1048576) (hby : by_.size ≤ 1048576) :
    Calls Try.prog 13 #[.string s, .string by_] w (NewStrs (splitL s by_) w) := by
  obtain ⟨i0, hi, hz0, hz1, hz2⟩ := info_parts info_str
  go_enter Try.func13, Try.ntmps13
  go_wp2
  go_loopw [5, 6, 7] (fun v st i wr => ∃ k : Nat, k ≤ s.size ∧ i = .int .i64 k ∧ st = .int .i64 ((spl s by_ k).2 : Nat) ∧ Hid (OwnStrs wr w.heap.size v (spl s by_ k).1) ∧ Below w.heap.size w wr) (fun _ _ i _ => s.size - (intOf i).toNat)
  case atStart => exact ⟨0, Nat.zero_le _, rfl, rfl, World.ownsRow_lit w #[] 0 (Nat.le_refl _) (by decide) rfl, (Below.refl _ _).alloc (Nat.le_refl _) _⟩
  case round =>
    obtain ⟨k, hk, rfl, rfl, hown, hb⟩ := hrel
    have hle := spl_le s by_ k
    obtain ⟨st, hstd⟩ : ∃ st, st = (spl s by_ k).2 := ⟨_, rfl⟩
    obtain ⟨ps, hps⟩ : ∃ ps, ps = (spl s by_ k).1 := ⟨_, rfl⟩
    rw [← hstd, ← hps] at hle
    rw [← hstd]
    rw [← hps] at hown
    have HS := Lib.hid hstd
    have HP := Lib.hid hps
    clear hstd hps
    obtain ⟨hle1, hle2⟩ := hle
    have hbz := hb.size
    by_cases hlt : k < s.size
    · go_wp2
      go_loopw [5, 6, 8] (fun v st' q w' => ∃ j n : Nat, j ≤ by_.size ∧ q = .int .i64 j ∧ v = u5 ∧ st' = .int .i64 (st : Nat) ∧ w' = wr.drewN n ∧ Hid (noneB by_ s[k] j)) (fun _ _ q _ => by_.size - (intOf q).toNat)
      case atStart => exact ⟨0, 0, Nat.zero_le _, rfl, rfl, rfl, rfl, fun i _ hi => absurd hi (by omega)⟩
      case round =>
        obtain ⟨j, n, hj, rfl, rfl, rfl, rfl, hno⟩ := hrel
        by_cases hjl : j < by_.size
        · by_cases he : by_[j] = s[k]
          · have hyes := Lib.hid (spl_cut s by_ k hlt (cut_yes by_ _ j hjl he))
            have ht : (((s[k].toNat : Nat) : Int) == ((by_[j].toNat : Nat) : Int)) = true := by rw [he]; simp
            clear he
            go_wp2
            go_quiet (fail)
            go_wp2_with (at_builtin; refine wpList_append_own _ rfl _ _ 23 rfl w.heap.size 9 i0 (.string ⟨#[]⟩) 1 16 Try.underlying23 hi hz0 hz1 hz2 rfl (by decide) _ _ _ rfl (World.ownsRow.alloc (own_drewN hown.out _) _) ⟨_, 0, none⟩ 1 1 [.string (s.extract st k)] rfl rfl ?c1 ?c2 ?c3 ?c4 ?c5 ?_)
            case c1 =>
              intro j u hj
              match j, hj with
              | 0, hj => simp at hj; subst hj; simp [Addr.add]; exact one_cell (wr.drewN _) _ _
            case c2 => intro u hu; simp at hu; subst hu; rfl
            case c3 => unfold maxLen; omega
            case c4 => omega
            case c5 => simp; omega
            intro v' w2 hown' hgrow _
            have hO := Lib.hid (own_next hown')
            have hB : Below w.heap.size w w2 := ((below_drewN hb _).alloc hbz _).grown hgrow (by simp; omega) (fun g hg => ((World.ownsRow.lt hown.out) g hg).1)
            clear hown' hgrow
            go_wp2
            go_roundw
            case rel => exact ⟨k + 1, by omega, by go_num, by rw [hyes.out]; go_num, by rw [hyes.out]; show OwnStrs _ _ _ ((spl s by_ k).1 ++ [s.extract (spl s by_ k).2 k]); rw [← HP.out, ← HS.out]; exact hO.out, hB⟩
            case measure => simp [intOf]; omega
          · have hnext := Lib.hid (none_next by_ _ j hjl hno.out he)
            have ht : (((s[k].toNat : Nat) : Int) == ((by_[j].toNat : Nat) : Int)) = false := by
              rw [beq_eq_false_iff_ne]
              intro h
              exact he (UInt8.toNat_inj.1 (by omega))
            clear he
            go_wp2
            go_quiet (fail)
            go_wp2
            go_roundw
            case rel => exact ⟨j + 1, _, by omega, by go_num, rfl, rfl, rfl, hnext⟩
            case measure => simp [intOf]; omega
        · have hsame := Lib.hid (spl_not s by_ k hlt (cut_no by_ _ j (by omega) hno.out))
          go_wp2
          go_roundw
          case rel => exact ⟨k + 1, by omega, by go_num, by rw [hsame.out, ← HS.out], by rw [hsame.out, ← HP.out]; exact hown, below_drewN hb _⟩
          case measure => simp [intOf]; omega
    · obtain rfl : k = s.size := by omega
      go_wp2_with (at_builtin; refine wpList_append_own _ rfl _ _ 23 rfl w.heap.size 9 i0 (.string ⟨#[]⟩) 1 16 Try.underlying23 hi hz0 hz1 hz2 rfl (by decide) _ _ _ rfl (World.ownsRow.alloc hown.out _) ⟨wr.heap.size, 0, none⟩ 1 1 [.string (s.extract st s.size)] rfl rfl ?d1 ?d2 ?d3 ?d4 ?d5 ?_)
      case d1 =>
        intro j u hj
        match j, hj with
        | 0, hj => simp at hj; subst hj; simp [Addr.add]
      case d2 => intro u hu; simp at hu; subst hu; rfl
      case d3 => unfold maxLen; omega
      case d4 => omega
      case d5 => simp; omega
      intro v' w2 hown' hgrow _
      have hO := Lib.hid (own_next hown')
      have hB : Below w.heap.size w w2 := (hb.alloc hbz _).grown hgrow (by simp; omega) (fun g hg => ((World.ownsRow.lt hown.out) g hg).1)
      clear hown' hgrow
      go_wp2
      go_ret
      refine ⟨v', rfl, ?_, hB⟩
      show OwnStrs _ _ _ ((spl s by_ s.size).1 ++ [s.extract (spl s by_ s.size).2 s.size])
      rw [← HP.out, ← HS.out]
      exact hO.out

end Go.Proofs.Ytpcmiohnhbaciaa
