
/- A list of ints that lies at the head of a longer one, in the same block: it is kept where the longer one is. Over any program. -/
import Derived.Test.YtfofbnpgjdagkaaInts
import Derived.Test.YtfofbnpgjdagkaaOwnVar
namespace Go.Proofs.Ytfofbnpgjdagkaa
open Go.RowKit
set_option maxRecDepth 100000

theorem own_prefix {X X' : World} {b : Nat} {v v' : Value} {l m : List Int} {g : Nat} (h : OwnInt X b v l) (h' : OwnInt X b v' (l ++ m)) (hv : v.ownBlock = some g) (hv' : v'.ownBlock = some g) (k : OwnInt X' b v' (l ++ m)) : OwnInt X' b v l := by
  refine ⟨h.1, ?_⟩
  rcases h.2 with ⟨rfl, _⟩ | ⟨g1, c1, cur1, rfl, hb1, hg1, hn1, hm1, hs1, ht1⟩
  · simp [Value.ownBlock] at hv
  · rcases h'.2 with ⟨rfl, _⟩ | ⟨g2, c2, cur2, rfl, hb2, hg2, hn2, hm2, hs2, ht2⟩
    · simp [Value.ownBlock] at hv'
    · rcases k.2 with ⟨e, _⟩ | ⟨g3, c3, cur3, e, hb3, hg3, hn3, hm3, hs3, ht3⟩
      · cases e
      · injection e with e1 _ e3
        injection e1 with e1
        injection e1 with e1
        simp [Value.ownBlock] at hv hv'
        subst e1 e3 hv hv'
        rw [hg1] at hg2
        injection hg2 with hg2
        injection hg2 with hg2
        subst hg2
        have hc : c1 = c2 := by omega
        subst hc
        refine .inr ⟨g2, c1, cur3, rfl, hb1, hg3, hn1, hm1, hs3, ?_⟩
        have e4 : cur3.toList.take (l.length * 1) = (cur3.toList.take ((l ++ m).length * 1)).take (l.length * 1) := by
          rw [List.take_take]; congr 1; rw [List.length_append]; omega
        rw [e4, ht3, List.flatMap_append, List.take_append_of_le_length (by rw [flat_len intLen]; omega), List.take_of_length_le (by rw [flat_len intLen]; omega)]
end Go.Proofs.Ytfofbnpgjdagkaa
