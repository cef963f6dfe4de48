/- For all strings, impl.SplitAny returns a new list of the strings that 'splitL' names: a contract, for strings of at most 1048576 bytes. -/
import Derived.Test.YtpcmiohnhbaciaaStrs
import Derived.Test.YtpcmiohnhbaciaaBytesIn
namespace Go.Proofs.Ytpcmiohnhbaciaa
open Go.RowKit

def cutB (by_ : ByteArray) (c : UInt8) : Bool := by_.data.toList.contains c
def spl (s by_ : ByteArray) : Nat → List ByteArray × Nat
  | 0 => ([], 0)
  | k + 1 => if h : k < s.size then (if cutB by_ s[k] = true then ((spl s by_ k).1 ++ [s.extract (spl s by_ k).2 k], k + 1) else spl s by_ k) else spl s by_ k
def splitL (s by_ : ByteArray) : List ByteArray := (spl s by_ s.size).1 ++ [s.extract (spl s by_ s.size).2 s.size]

theorem spl_le (s by_ : ByteArray) : ∀ k, (spl s by_ k).2 ≤ k ∧ (spl s by_ k).1.length ≤ k
  | 0 => ⟨Nat.le_refl _, Nat.le_refl _⟩
  | k + 1 => by
    have := spl_le s by_ k
    unfold spl
    split
    · split
      · exact ⟨Nat.le_refl _, by simp; omega⟩
      · omega
    · omega
theorem spl_cut (s by_ : ByteArray) (k : Nat) (h : k < s.size) (hc : cutB by_ s[k] = true) : spl s by_ (k + 1) = ((spl s by_ k).1 ++ [s.extract (spl s by_ k).2 k], k + 1) := by
  rw [spl, dif_pos h, if_pos hc]
theorem spl_not (s by_ : ByteArray) (k : Nat) (h : k < s.size) (hc : cutB by_ s[k] = false) : spl s by_ (k + 1) = spl s by_ k := by
  rw [spl, dif_pos h, if_neg (by simp [hc])]
theorem splitL_len (s by_ : ByteArray) : (splitL s by_).length ≤ s.size + 1 := by
  have := spl_le s by_ s.size
  unfold splitL; simp; omega

theorem storeCells_cuts (l : List UInt8) (w : World) :
    (storeCells ⟨w.heap.size, 0, none⟩ (Lib.setCells l).toList 0).run Try.prog (w.alloc (.cells (Array.replicate 256 (.bool false)) 36)) = .ok () (w.alloc (.cells (Lib.setCells l) 36)) :=
  run_storeCells_new w _ _ _ (by rw [Lib.setCells_size]; exact (zero_of_info info_cuts).2) (by rw [Lib.setCells_size, Array.size_replicate]) (Lib.setCells_one _)

set_option maxHeartbeats 2000000 in
set_option maxRecDepth 100000 in
theorem implSplitAny (s by_ : ByteArray) (w : World) (hs : s.size ≤ 1048576) (hby : by_.size ≤ 1048576) :
    Calls Try.prog 14 #[.string s, .string by_] w (NewStrs (splitL s by_) w) := by
  obtain ⟨i0, hi, hz0, hz1, hz2⟩ := info_parts info_str
  have hz := (zero_of_info info_cuts).1
  have hst := storeCells_cuts by_.data.toList
  have hsz := Lib.setCells_size by_.data.toList
  go_enter Try.func14, Try.ntmps14
  go_wp2_with (go_at_call 29; refine (bytesIn_any _ _ (by unfold maxLen; omega)).mono ?_; rintro e w1 ⟨rfl, hb1⟩)
  clear hst hsz hz
  obtain ⟨W2, hW2⟩ : ∃ W, W = w1.alloc (.cells (Lib.setCells by_.data.toList) 36) := ⟨_, rfl⟩
  have hbs := hb1.size
  have hB2 : Below w.heap.size w W2 := by rw [hW2]; exact hb1.alloc hbs _
  have hsz2 : W2.heap.size = w1.heap.size + 1 := by rw [hW2]; simp
  have HT : Hid (∀ c : UInt8, W2.cell? ⟨w1.heap.size, c.toNat, none⟩ = some (.bool (cutB by_ c))) := fun c => by
    rw [hW2, World.cell?_alloc_at _ _ _ _ rfl]; exact Lib.setCells_at _ _
  rw [← hW2]
  have HZ := Lib.hid hsz2
  clear hW2 hb1 hsz2
  go_loopw [6, 7, 13] (fun v st i wr => ∃ k : Nat, k ≤ s.size ∧ i = .int .i64 k ∧ st = .int .i64 ((spl s by_ k).2 : Nat) ∧ Hid (OwnStrs wr W2.heap.size v (spl s by_ k).1) ∧ Below W2.heap.size W2 wr) (fun _ _ i _ => s.size - (intOf i).toNat)
  case atStart => exact ⟨0, Nat.zero_le _, rfl, rfl, World.ownsRow_nil _ _ _ _, Below.refl _ _⟩
  case round =>
    obtain ⟨k, hk, rfl, rfl, hown, hb⟩ := hrel
    have hle := spl_le s by_ k
    obtain ⟨st, hstd⟩ : ∃ st, st = (spl s by_ k).2 := ⟨_, rfl⟩
    obtain ⟨ps, hps⟩ : ∃ ps, ps = (spl s by_ k).1 := ⟨_, rfl⟩
    rw [← hstd, ← hps] at hle
    rw [← hstd]
    rw [← hps] at hown
    have HS := Lib.hid hstd
    have HP := Lib.hid hps
    clear hstd hps
    obtain ⟨hle1, hle2⟩ := hle
    have hbz := hb.size
    by_cases hlt : k < s.size
    · have hx : ((s[k].toNat : Nat) : Int) < 256 := by have := UInt8.toNat_lt s[k]; omega
      have hcell : wr.cell? ⟨w1.heap.size, s[k].toNat, none⟩ = some (.bool (cutB by_ s[k])) := (hb.cell (p := ⟨w1.heap.size, s[k].toNat, none⟩) (by have := HZ.out; show w1.heap.size < _; omega)).trans (HT.out s[k])
      cases hcut : cutB by_ s[k]
      · rw [hcut] at hcell
        have hno := Lib.hid (spl_not s by_ k hlt hcut)
        clear hcut
        go_wp2
        go_roundw
        case rel => exact ⟨k + 1, by omega, by go_num, by rw [hno.out, ← HS.out], by rw [hno.out, ← HP.out]; exact hown, hb⟩
        case measure => simp [intOf]; omega
      · rw [hcut] at hcell
        have hyes := Lib.hid (spl_cut s by_ k hlt hcut)
        clear hcut
        go_wp2_with (at_builtin; refine wpList_append_own _ rfl _ _ 23 rfl W2.heap.size 9 i0 (.string ⟨#[]⟩) 1 16 Try.underlying23 hi hz0 hz1 hz2 rfl (by decide) _ _ _ rfl (World.ownsRow.alloc hown.out _) ⟨wr.heap.size, 0, none⟩ 1 1 [.string (s.extract st k)] rfl rfl ?c1 ?c2 ?c3 ?c4 ?c5 ?_)
        case c1 =>
          intro j u hj
          match j, hj with
          | 0, hj => simp at hj; subst hj; simp [Addr.add]
        case c2 => intro u hu; simp at hu; subst hu; rfl
        case c3 => unfold maxLen; omega
        case c4 => omega
        case c5 => simp; omega
        intro v' w2 hown' hgrow _
        have hO := Lib.hid (own_next hown')
        have hB : Below W2.heap.size W2 w2 := (hb.alloc hbz _).grown hgrow (by simp; omega) (fun g hg => ((World.ownsRow.lt hown.out) g hg).1)
        clear hown' hgrow hcell
        go_wp2
        go_roundw
        case rel => exact ⟨k + 1, by omega, by go_num, by rw [hyes.out]; go_num, by rw [hyes.out]; show OwnStrs _ _ _ ((spl s by_ k).1 ++ [s.extract (spl s by_ k).2 k]); rw [← HP.out, ← HS.out]; exact hO.out, hB⟩
        case measure => simp [intOf]; omega
    · obtain rfl : k = s.size := by omega
      go_wp2_with (at_builtin; refine wpList_append_own _ rfl _ _ 23 rfl W2.heap.size 9 i0 (.string ⟨#[]⟩) 1 16 Try.underlying23 hi hz0 hz1 hz2 rfl (by decide) _ _ _ rfl (World.ownsRow.alloc hown.out _) ⟨wr.heap.size, 0, none⟩ 1 1 [.string (s.extract st s.size)] rfl rfl ?d1 ?d2 ?d3 ?d4 ?d5 ?_)
      case d1 =>
        intro j u hj
        match j, hj with
        | 0, hj => simp at hj; subst hj; simp [Addr.add]
      case d2 => intro u hu; simp at hu; subst hu; rfl
      case d3 => unfold maxLen; omega
      case d4 => omega
      case d5 => simp; omega
      intro v' w2 hown' hgrow _
      have hO := Lib.hid (own_next hown')
      have hB : Below W2.heap.size W2 w2 := (hb.alloc hbz _).grown hgrow (by simp; omega) (fun g hg => ((World.ownsRow.lt hown.out) g hg).1)
      clear hown' hgrow
      go_wp2
      go_ret
      refine ⟨v', rfl, ?_, hB2.trans (hB.mono hB2.size)⟩
      show OwnStrs _ _ _ ((spl s by_ s.size).1 ++ [s.extract (spl s by_ s.size).2 s.size])
      rw [← HP.out, ← HS.out]
      exact own_lower hO.out hB2.size

end Go.Proofs.Ytpcmiohnhbaciaa
