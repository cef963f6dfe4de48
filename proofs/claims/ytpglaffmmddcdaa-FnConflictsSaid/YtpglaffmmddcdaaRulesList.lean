
/- Rules of traffic, the program's side: rulesInOrder, hasRules: contracts. -/
import Derived.Test.YtpglaffmmddcdaaEncImpl
import Derived.Test.YtpglaffmmddcdaaChartOkImpl
import Derived.Laws.EntriesVeiled
namespace Go.Proofs.Ytpglaffmmddcdaa
open Go.RowKit
set_option maxRecDepth 100000

@[reducible] def rulesV : Value := .agg #[.int .i64 1, .func (.func 79) #[] #[], .int .i64 2, .func (.func 80) #[] #[], .int .i64 3, .func (.func 81) #[] #[], .int .i64 4, .func (.func 82) #[] #[]]
theorem rulesInOrder_any (w : World) : Calls Try.prog 66 #[] w fun e w' => e = .returned rulesV ∧ Below w.heap.size w w' := by
  go_enter Try.func66, Try.ntmps66
  go_wp2
  exact bodyPost_ret (v := rulesV) (by simp [results, Try.results66, go_sem]) rfl ⟨rfl, Joins.below_alloc1 _ _⟩

theorem index_rules0 (w : World) : (Instr.index 110 rulesV (.int .i64 0)).run Try.prog w = .ok (.agg #[.int .i64 1, .func (.func 79) #[] #[]]) w := by rfl
theorem index_rules1 (w : World) : (Instr.index 110 rulesV (.int .i64 1)).run Try.prog w = .ok (.agg #[.int .i64 2, .func (.func 80) #[] #[]]) w := by rfl
theorem index_rules2 (w : World) : (Instr.index 110 rulesV (.int .i64 2)).run Try.prog w = .ok (.agg #[.int .i64 3, .func (.func 81) #[] #[]]) w := by rfl
theorem index_rules3 (w : World) : (Instr.index 110 rulesV (.int .i64 3)).run Try.prog w = .ok (.agg #[.int .i64 4, .func (.func 82) #[] #[]]) w := by rfl

set_option maxHeartbeats 4000000 in
theorem hasRules_any (yd0 yd1 : Value) (d : ChartD) (r : RegimeD) (w : World) (rd : RdChart w yd0 yd1 d) (fd : ∀ x ∈ d.points, PointD.wf x) :
    Calls Try.prog 47 #[.agg #[yd0, yd1], r.val] w (fun e w' => e = .returned (.bool (chartB d && regB r)) ∧ Below w.heap.size w w') := by
  have Rd := Lib.hid rd
  obtain ⟨rd0, rd1⟩ := rd
  obtain ⟨Ad0, cd0, rfl⟩ := SlOf.form rd0
  obtain ⟨Ad1, cd1, rfl⟩ := SlOf.form rd1
  have Nd := Lib.hid fd
  clear fd
  clear rd0 rd1
  obtain ⟨W0, hW0⟩ : ∃ W0, W0 = ((w.alloc (.cells #[.slice Ad0 d.points.length cd0, .slice Ad1 d.segs.length cd1] 26)).alloc (.cells #[.int .i64 r.gap, .bool r.noMeet] 28)) := ⟨_, rfl⟩
  have B := Lib.hid ((Joins.below_alloc1 w (.cells #[.slice Ad0 d.points.length cd0, .slice Ad1 d.segs.length cd1] 26)).trans ((Joins.below_alloc1 (w.alloc (.cells #[.slice Ad0 d.points.length cd0, .slice Ad1 d.segs.length cd1] 26)) (.cells #[.int .i64 r.gap, .bool r.noMeet] 28)).mono (by simp; try omega)))
  have Kd := Lib.hid ((Blk.new w #[.slice Ad0 d.points.length cd0, .slice Ad1 d.segs.length cd1] 26).below (Joins.below_alloc1 _ (.cells #[.int .i64 r.gap, .bool r.noMeet] 28)))
  have Kr := Lib.hid (Blk.new (w.alloc (.cells #[.slice Ad0 d.points.length cd0, .slice Ad1 d.segs.length cd1] 26)) #[.int .i64 r.gap, .bool r.noMeet] 28)
  rw [World.size_alloc] at Kr
  have HW0 := Lib.hid hW0
  rw [← hW0] at B Kd Kr
  clear hW0
  obtain ⟨b1, hb1⟩ : ∃ b, chartB d = b := ⟨_, rfl⟩
  have Hb1 := Lib.hid hb1
  rw [hb1]
  clear hb1
  obtain ⟨b2, hb2⟩ : ∃ b, regB r = b := ⟨_, rfl⟩
  have Hb2 := Lib.hid hb2
  rw [hb2]
  clear hb2
  cases b1 with
  | false =>
    go_enter Try.func47, Try.ntmps47
    have vd0 : W0.cell? ⟨w.heap.size, 0, none⟩ = some (.slice Ad0 d.points.length cd0) := Kd.out.cell 0
    have vd1 : W0.cell? ⟨w.heap.size, 1, none⟩ = some (.slice Ad1 d.segs.length cd1) := Kd.out.cell 1
    have vr0 : W0.cell? ⟨w.heap.size + 1, 0, none⟩ = some (.int .i64 r.gap) := Kr.out.cell 0
    have vr1 : W0.cell? ⟨w.heap.size + 1, 1, none⟩ = some (.bool r.noMeet) := Kr.out.cell 1
    go_wp2_with fail
    rw [← HW0.out]
    clear vd0 vd1 vr0 vr1
    refine (implChartOk _ _ d _ (Rd.out.below B.out) Nd.out).mono ?_
    rw [Hb1.out]
    rintro e w1 ⟨rfl, hb1⟩
    have B1 := Lib.hid (B.out.trans (hb1.mono B.out.size))
    have Kd_1 := Lib.hid (Kd.out.below hb1)
    have Kr_1 := Lib.hid (Kr.out.below hb1)
    clear hb1
    have vd0 : w1.cell? ⟨w.heap.size, 0, none⟩ = some (.slice Ad0 d.points.length cd0) := Kd_1.out.cell 0
    have vd1 : w1.cell? ⟨w.heap.size, 1, none⟩ = some (.slice Ad1 d.segs.length cd1) := Kd_1.out.cell 1
    have vr0 : w1.cell? ⟨w.heap.size + 1, 0, none⟩ = some (.int .i64 r.gap) := Kr_1.out.cell 0
    have vr1 : w1.cell? ⟨w.heap.size + 1, 1, none⟩ = some (.bool r.noMeet) := Kr_1.out.cell 1
    go_wp2
    go_ret
    exact ⟨ret_bool rfl, B1.out⟩
  | true =>
  go_enter Try.func47, Try.ntmps47
  have vd0 : W0.cell? ⟨w.heap.size, 0, none⟩ = some (.slice Ad0 d.points.length cd0) := Kd.out.cell 0
  have vd1 : W0.cell? ⟨w.heap.size, 1, none⟩ = some (.slice Ad1 d.segs.length cd1) := Kd.out.cell 1
  have vr0 : W0.cell? ⟨w.heap.size + 1, 0, none⟩ = some (.int .i64 r.gap) := Kr.out.cell 0
  have vr1 : W0.cell? ⟨w.heap.size + 1, 1, none⟩ = some (.bool r.noMeet) := Kr.out.cell 1
  go_wp2_with fail
  rw [← HW0.out]
  clear vd0 vd1 vr0 vr1
  refine (implChartOk _ _ d _ (Rd.out.below B.out) Nd.out).mono ?_
  rw [Hb1.out]
  rintro e w1 ⟨rfl, hb1⟩
  have B1 := Lib.hid (B.out.trans (hb1.mono B.out.size))
  have Kd_1 := Lib.hid (Kd.out.below hb1)
  have Kr_1 := Lib.hid (Kr.out.below hb1)
  clear hb1
  have vd0 : w1.cell? ⟨w.heap.size, 0, none⟩ = some (.slice Ad0 d.points.length cd0) := Kd_1.out.cell 0
  have vd1 : w1.cell? ⟨w.heap.size, 1, none⟩ = some (.slice Ad1 d.segs.length cd1) := Kd_1.out.cell 1
  have vr0 : w1.cell? ⟨w.heap.size + 1, 0, none⟩ = some (.int .i64 r.gap) := Kr_1.out.cell 0
  have vr1 : w1.cell? ⟨w.heap.size + 1, 1, none⟩ = some (.bool r.noMeet) := Kr_1.out.cell 1
  go_wp2_with fail
  clear vd0 vd1 vr0 vr1
  refine (implRegimeOk r _).mono ?_
  rw [Hb2.out]
  rintro e w2 ⟨rfl, hb2⟩
  have B2 := Lib.hid (B1.out.trans (hb2.mono B1.out.size))
  have Kd_2 := Lib.hid (Kd_1.out.below hb2)
  have Kr_2 := Lib.hid (Kr_1.out.below hb2)
  clear hb2
  have vd0 : w2.cell? ⟨w.heap.size, 0, none⟩ = some (.slice Ad0 d.points.length cd0) := Kd_2.out.cell 0
  have vd1 : w2.cell? ⟨w.heap.size, 1, none⟩ = some (.slice Ad1 d.segs.length cd1) := Kd_2.out.cell 1
  have vr0 : w2.cell? ⟨w.heap.size + 1, 0, none⟩ = some (.int .i64 r.gap) := Kr_2.out.cell 0
  have vr1 : w2.cell? ⟨w.heap.size + 1, 1, none⟩ = some (.bool r.noMeet) := Kr_2.out.cell 1
  go_wp2
  go_ret
  exact ⟨ret_bool rfl, B2.out⟩
end Go.Proofs.Ytpglaffmmddcdaa