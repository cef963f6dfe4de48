/- For every string of at most 1048576 bytes, impl.SplitLines returns a new list of the strings that 'linesL' names: a contract. -/
import Derived.Test.YtpcmiohnhbaciaaSplit
namespace Go.Proofs.Ytpcmiohnhbaciaa
open Go.RowKit

def nl : ByteArray := ⟨#[10]⟩
def linesL (s : ByteArray) : List ByteArray :=
  if (s.extract (spl s nl s.size).2 s.size).size = 0 then (spl s nl s.size).1 else splitL s nl

theorem linesL_len (s : ByteArray) : (linesL s).length ≤ s.size + 1 := by
  have h1 := splitL_len s nl
  have h2 := spl_le s nl s.size
  unfold linesL
  split <;> omega

theorem own_open {w : World} {base : Nat} {v : Value} {ps : List ByteArray} {x : ByteArray} (h : OwnStrs w base v (ps ++ [x])) :
    ∃ g cap, v = .slice (some ⟨g, 0, none⟩) (ps.length + 1) cap ∧ ps.length + 1 ≤ cap ∧ cap ≤ maxLen ∧ w.cell? ⟨g, ps.length, none⟩ = some (.string x) ∧ OwnStrs w base (.slice (some ⟨g, 0, none⟩) ps.length cap) ps := by
  have hc : ∀ g, v.ownBlock = some g → ∀ j u, ((ps ++ [x]).map Value.string)[j]? = some u → w.cell? ((⟨g, 0, none⟩ : Addr).add j) = some u := fun g hg => World.ownsRow.cells h hg
  obtain ⟨h1, h2⟩ := h
  rcases h2 with ⟨_, hn⟩ | ⟨g, cap, cur, rfl, hb, hh, hle, hm, hsz, ht⟩
  · simp at hn
  · have hl : (ps ++ [x]).length = ps.length + 1 := by simp
    rw [hl] at hle ht h1
    refine ⟨g, cap, by rw [hl], hle, hm, ?_, ?_, .inr ⟨g, cap, cur, rfl, hb, hh, by omega, hm, hsz, ?_⟩⟩
    · have := hc g rfl ps.length (.string x) (by simp)
      have hadd : (⟨g, 0, none⟩ : Addr).add ps.length = ⟨g, ps.length, none⟩ := by unfold Addr.add; split <;> simp_all
      rw [hadd] at this
      exact this
    · simp
    · have h3 : cur.toList.take (ps.length * 1) = (cur.toList.take ((ps.length + 1) * 1)).take (ps.length * 1) := by
        rw [List.take_take]; congr 1; omega
      rw [h3, ht]
      simp

set_option maxHeartbeats 1000000 in
theorem implSplitLines (s : ByteArray) (w : World) (hs : s.size ≤ 1048576) :
    Calls Try.prog 19 #[.string s] w (NewStrs (linesL s) w) := by
  have c := fun w => implSplitAny s nl w hs (by decide)
  have hle := (spl_le s nl s.size).2
  have hd : linesL s = if (s.extract (spl s nl s.size).2 s.size).size = 0 then (spl s nl s.size).1 else (spl s nl s.size).1 ++ [s.extract (spl s nl s.size).2 s.size] := rfl
  unfold splitL at c
  generalize (spl s nl s.size).1 = ps at *
  generalize s.extract (spl s nl s.size).2 s.size = x at *
  have C := Lib.hid c
  have HD := Lib.hid hd
  clear c hd
  go_enter Try.func19, Try.ntmps19
  go_wp2_with fail
  refine (C.out _).mono ?_
  rintro e w1 ⟨v, rfl, ho, hb⟩
  obtain ⟨g, cap, rfl, hc1, hc2, hcell, ho'⟩ := own_open ho
  unfold maxLen at hc2
  have HO := Lib.hid ho
  have HO' := Lib.hid ho'
  clear ho ho'
  by_cases hx : x.size = 0
  · have he : x.toList = [] := (empty_iff x).2 hx
    have hl := Lib.hid (HD.out.trans (if_pos hx))
    clear hx
    go_wp2
    go_ret
    exact ⟨_, rfl, by rw [hl.out]; exact HO'.out, hb⟩
  · have he : (x.toList = []) = False := by rw [empty_iff]; simp [hx]
    have he2 : x.toList.isEmpty = false := by
      cases h : x.toList with
      | nil => rw [h] at he; simp at he
      | cons a t => rfl
    have hl := Lib.hid (HD.out.trans (if_neg hx))
    clear hx
    go_wp2
    go_ret
    exact ⟨_, rfl, by rw [hl.out]; exact HO.out, hb⟩

end Go.Proofs.Ytpcmiohnhbaciaa
