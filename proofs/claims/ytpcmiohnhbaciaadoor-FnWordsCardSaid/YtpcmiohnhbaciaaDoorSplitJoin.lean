/- The parts of a string that is split at one byte give the string back when they are joined by that byte. Plain facts. -/
import Derived.Test.YtpcmiohnhbaciaaDoorSplit
import Derived.Test.YtpcmiohnhbaciaaDoorJoinPlain
namespace Go.Proofs.YtpcmiohnhbaciaaDoor

def spc : ByteArray := ⟨#[32]⟩
def catL (ps : List ByteArray) : List UInt8 := (ps.map fun p => p.data.toList ++ [32]).flatten
theorem catL_snoc (ps : List ByteArray) (x : ByteArray) : catL (ps ++ [x]) = catL ps ++ (x.data.toList ++ [32]) := by
  simp [catL]
theorem join_cat (ps : List ByteArray) (x : ByteArray) : Lib.join ((ps ++ [x]).map (·.data.toList)) [32] = catL ps ++ x.data.toList := by
  induction ps with
  | nil => simp [catL, Lib.join_one]
  | cons a t ih =>
    rw [List.cons_append, List.map_cons, Lib.join_cons]
    have e : catL (a :: t) = (a.data.toList ++ [32]) ++ catL t := by simp [catL]
    rw [e, List.append_assoc, ← ih]
    cases h : (t ++ [x]).map (·.data.toList) with
    | nil => simp at h
    | cons b r =>
      rw [Lib.join_cons]
      simp [Lib.joinTail]
theorem extract_list (s : ByteArray) (a b : Nat) : (s.extract a b).data.toList = (s.data.toList.take b).drop a := by
  rw [ByteArray.data_extract, Array.toList_extract, List.extract_eq_take_drop, List.drop_take]
theorem cut_spc (c : UInt8) (h : cutB spc c = true) : c = 32 := by
  unfold cutB spc at h
  simpa using h
theorem spl_cat (s : ByteArray) : ∀ k, k ≤ s.size → catL (spl s spc k).1 = s.data.toList.take (spl s spc k).2
  | 0, _ => by simp [spl, catL]
  | k + 1, hk => by
    have ih := spl_cat s k (by omega)
    have hlt : k < s.size := by omega
    have hle := (spl_le s spc k).1
    cases hc : cutB spc s[k]
    · rw [spl_not s spc k hlt hc]; exact ih
    · rw [spl_cut s spc k hlt hc]
      show catL ((spl s spc k).1 ++ [s.extract (spl s spc k).2 k]) = s.data.toList.take (k + 1)
      rw [catL_snoc, ih, extract_list, take_snoc s k hlt, cut_spc _ hc, ← List.append_assoc]
      congr 1
      have h2 : s.data.toList.take (spl s spc k).2 = (s.data.toList.take k).take (spl s spc k).2 := by
        rw [List.take_take]; congr 1; omega
      rw [h2, List.take_append_drop]
theorem join_split (s : ByteArray) : joinOf (splitL s spc) spc = s := by
  apply ba_ext
  rw [joinOf_data]
  show Lib.join (((spl s spc s.size).1 ++ [s.extract (spl s spc s.size).2 s.size]).map (·.data.toList)) [32] = _
  rw [join_cat, spl_cat s s.size (Nat.le_refl _), extract_list, take_all s s.size (Nat.le_refl _), List.take_append_drop]

end Go.Proofs.YtpcmiohnhbaciaaDoor
