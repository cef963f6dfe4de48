/- For every string of at most 1048576 bytes, spec.SplitLines returns a new list of the strings that 'linesL' names: a contract. -/
import Derived.Test.YtpcmiohnhbaciaaLines
import Derived.Test.YtpcmiohnhbaciaaSplitSpec
namespace Go.Proofs.Ytpcmiohnhbaciaa
open Go.RowKit

set_option maxHeartbeats 1000000 in
theorem specSplitLines (s : ByteArray) (w : World) (hs : s.size ≤ 1048576) :
    Calls Try.prog 18 #[.string s] w (NewStrs (linesL s) w) := by
  have c := fun w => specSplitAny s nl w hs (by decide)
  have hle := (spl_le s nl s.size).2
  have hd : linesL s = if (s.extract (spl s nl s.size).2 s.size).size = 0 then (spl s nl s.size).1 else (spl s nl s.size).1 ++ [s.extract (spl s nl s.size).2 s.size] := rfl
  unfold splitL at c
  generalize (spl s nl s.size).1 = ps at *
  generalize s.extract (spl s nl s.size).2 s.size = x at *
  have C := Lib.hid c
  have HD := Lib.hid hd
  clear c hd
  go_enter Try.func18, Try.ntmps18
  go_wp2_with fail
  refine (C.out _).mono ?_
  rintro e w1 ⟨v, rfl, ho, hb⟩
  obtain ⟨g, cap, rfl, hc1, hc2, hcell, ho'⟩ := own_open ho
  unfold maxLen at hc2
  have HO := Lib.hid ho
  have HO' := Lib.hid ho'
  clear ho ho'
  by_cases hx : x.size = 0
  · have he : x.toList = [] := (empty_iff x).2 hx
    have hl := Lib.hid (HD.out.trans (if_pos hx))
    clear hx
    go_wp2
    go_ret
    exact ⟨_, rfl, by rw [hl.out]; exact HO'.out, hb⟩
  · have he : (x.toList = []) = False := by rw [empty_iff]; simp [hx]
    have he2 : x.toList.isEmpty = false := by
      cases h : x.toList with
      | nil => rw [h] at he; simp at he
      | cons a t => rfl
    have hl := Lib.hid (HD.out.trans (if_neg hx))
    clear hx
    go_wp2
    go_ret
    exact ⟨_, rfl, by rw [hl.out]; exact HO.out, hb⟩

end Go.Proofs.Ytpcmiohnhbaciaa
