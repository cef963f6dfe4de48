/- For every string, impl.bytesIn returns the array of 256 bools that is true just at the string's bytes, and changes nothing that lay before it: a contract, without a condition but the string's own length bound. -/
import Derived.Test.YtpcmiohnhbaciaaText
import Derived.Lib.AsciiSet
import Derived.Deep.WholeRow
import Derived.Deep.LoopGhost
namespace Go.Proofs.Ytpcmiohnhbaciaa
open Go.RowKit

theorem info_cuts : (Try.prog.info? 36).map (fun i => (i.zero, i.size)) = some (some (.agg (Array.replicate 256 (.bool false))), 256) := by kernel_rfl

section
variable {P : Program} {ops : Array Oper} {rest : List Oper} {o : Oper} {a : Act} {w w' : World} {Q : Exit → Act → World → Prop}
/-- One load whose run is known. -/
theorem wp_load_run {K : Act → World → Prop} (t : TypeId) (x : Operand) (ho : o.op = .load t x) (v : Value) (hrun : (Instr.loadAt t (a.eval x)).run P w = .ok v w)
    (h : K (a.put o.dst v) w) : o.wp P a w K Q := by
  unfold Oper.wp execOp
  simp only [ho, Sem.run_bind, hrun, Result.andThen_ok, Sem.run_pure]
  exact h
/-- One store whose run is known. -/
theorem wpList_store_run (hgd : o.guard = none) (t : TypeId) (x y : Operand) (ho : o.op = .store t x y) (hrun : (Instr.storeAt t (a.eval x) (a.eval y)).run P w = .ok () w')
    (h : wpList P ops Q rest (a.put o.dst undef) w') : wpList P ops Q (o :: rest) a w :=
  wpList_plain hgd fun _ hK => by
    unfold Oper.wp execOp
    simp only [ho, Sem.run_bind, hrun, Result.andThen_ok, Sem.run_pure]
    exact hK _ _ h
end

/-- The whole array into the block before the last one. -/
theorem store_before (w : World) (c c' : Array Value) (o : Obj) (h : c.size = c'.size) (h1 : c'.all (·.oneCell') = true) (hn : c'.size = 256) :
    (Instr.storeAt 36 (.pointer (some ⟨w.heap.size, 0, none⟩)) (.agg c')).run Try.prog ((w.alloc (.cells c 36)).alloc o) = .ok () ((w.alloc (.cells c' 36)).alloc o) := by
  have hh : ((w.alloc (.cells c 36)).alloc o).heap[w.heap.size]? = some (.cells c 36 (0, 0)) := by
    rw [Below.heap_alloc _ _ _ (by simp)]; exact heap_alloc_last w _
  have hrun := run_storeVar_row (P := Try.prog) _ _ 36 36 c c' hh (by rw [hn]; exact (zero_of_info info_cuts).2) h h1
  have hw : ((w.alloc (.cells c 36)).alloc o).setRow w.heap.size c' = (w.alloc (.cells c' 36)).alloc o := by
    simp only [World.setRow, World.alloc]
    congr 1
    apply Array.ext_getElem?
    intro i
    rw [Array.getElem?_modify]
    by_cases h : w.heap.size = i
    · subst h
      simp [Array.getElem?_push]
    · have h' : ¬ i = w.heap.size := fun e => h e.symm
      simp [h, h', Array.getElem?_push]
  rw [hw] at hrun
  simp only [Instr.storeAt, Instr.sureAddr, Sem.run_bind, Sem.run_pure, Result.andThen]
  exact hrun

set_option maxHeartbeats 1000000 in
set_option maxRecDepth 100000 in
theorem bytesIn_any (s : ByteArray) (w : World) (hs : s.size ≤ maxLen) :
    Calls Try.prog 29 #[.string s] w fun e w' => e = .returned (.agg (Lib.setCells s.data.toList)) ∧ Below w.heap.size w w' := by
  unfold maxLen at hs
  have hz := (zero_of_info info_cuts).1
  go_enter Try.func29, Try.ntmps29
  go_wp2
  rw [← Lib.setCells_nil]
  go_loopw [7] (fun i wx => ∃ k : Nat, k ≤ s.size ∧ i = .int .i64 k ∧ wx = (w.alloc (.cells (Lib.setCells []) 36)).alloc (.cells (Lib.setCells (s.data.toList.take k)) 36)) (fun i _ => s.size - (intOf i).toNat)
  case atStart => exact ⟨0, Nat.zero_le _, rfl, rfl⟩
  case round =>
    obtain ⟨k, hk, rfl, rfl⟩ := hrel
    by_cases hlt : k < s.size
    · have hx : ((s[k].toNat : Nat) : Int) < 256 := by have := UInt8.toNat_lt s[k]; omega
      have hcell := Lib.setCells_at (s.data.toList.take k) s[k]
      have hts := Lib.hid (take_snoc s k hlt)
      go_wp2
      go_roundw
      case rel => exact ⟨k + 1, by omega, by go_num, by rw [hts.out, Lib.setCells_snoc]⟩
      case measure => simp [intOf]; omega
    · have hall := Lib.hid (take_all s k (by omega))
      rw [hall.out]
      have hsz := Lib.setCells_size s.data.toList
      have hlc : (Instr.loadAt 36 (.pointer (some ⟨w.heap.size + 1, 0, none⟩))).run Try.prog ((w.alloc (.cells (Lib.setCells []) 36)).alloc (.cells (Lib.setCells s.data.toList) 36)) = .ok (.agg (Lib.setCells s.data.toList)) ((w.alloc (.cells (Lib.setCells []) 36)).alloc (.cells (Lib.setCells s.data.toList) 36)) := by
        have h := run_loadAt_new (P := Try.prog) (w.alloc (.cells (Lib.setCells []) 36)) 36 (Lib.setCells s.data.toList) 256 4 Try.underlying36 (by rw [hsz]; exact (zero_of_info info_cuts).2)
        simpa using h
      have hsc := store_before w (Lib.setCells []) (Lib.setCells s.data.toList) (.cells (Lib.setCells s.data.toList) 36) (by rw [hsz]; rfl) (Lib.setCells_one _) hsz
      clear hz
      have hld : (loadVar 36 ⟨w.heap.size, 0, none⟩).run Try.prog ((w.alloc (.cells (Lib.setCells s.data.toList) 36)).alloc (.cells (Lib.setCells s.data.toList) 36)) = .ok (.agg (Lib.setCells s.data.toList)) ((w.alloc (.cells (Lib.setCells s.data.toList) 36)).alloc (.cells (Lib.setCells s.data.toList) 36)) :=
        run_loadVar_row _ _ 36 36 _ (0, 0) _ (by rw [Below.heap_alloc _ _ _ (by simp)]; exact heap_alloc_last w _) Try.underlying36 rfl (by rw [hsz]; exact (zero_of_info info_cuts).2)
      go_wp2
      refine wp_load_run _ _ rfl _ hlc ?_
      rename_i hK
      refine hK _ _ ?_
      refine wpList_store_run rfl _ _ _ rfl hsc ?_
      clear hlc hsc
      go_wp2
      refine bodyPost_ret (v := .agg (Lib.setCells s.data.toList)) ?_ rfl ⟨rfl, ((Below.refl _ _).alloc (Nat.le_refl _) _).alloc (by simp) _⟩
      simp [results, Try.results29, asAddr, Act.put, hld]

end Go.Proofs.Ytpcmiohnhbaciaa
