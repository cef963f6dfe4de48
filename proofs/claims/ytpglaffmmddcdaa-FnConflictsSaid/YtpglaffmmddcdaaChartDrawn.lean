
/- Drawn charts are valid: plain mathematics. -/
import Derived.Test.YtpglaffmmddcdaaChartOkSpec
import Derived.Test.YtpglaffmmddcdaaDrawChart
namespace Go.Proofs.Ytpglaffmmddcdaa
open Go
set_option maxRecDepth 100000

def nPts (e4 : Bool) : Nat := if e4 then 5 else 4
theorem npts_drawn (r : ChartRnd) : r.chart.points.length = nPts r.e4 := by
  obtain ⟨b, m, e3, e4, x0, y0, x1, y1, x2, y2, x3, y3, x4⟩ := r
  cases e4 <;> rfl
theorem names_drawn (r : ChartRnd) : ∀ x ∈ r.chart.points, PointD.wf x := by
  obtain ⟨b, m, e3, e4, x0, y0, x1, y1, x2, y2, x3, y3, x4⟩ := r
  cases e4
  · intro x hx
    simp [ChartRnd.chart] at hx
    rcases hx with rfl | rfl | rfl | rfl <;> (simp only [PointD.wf]; unfold maxLen; decide)
  · intro x hx
    simp [ChartRnd.chart] at hx
    rcases hx with rfl | rfl | rfl | rfl | rfl <;> (simp only [PointD.wf]; unfold maxLen; decide)
def ptData (l : List PointD) (k : Nat) : Bool := match l[k]? with | some x => nameB x.name && ((match l.findIdx? (fun p => p.name.data.toList == x.name.data.toList) with | some i => (i : Int) | none => -1) == (k : Int)) | none => true
theorem ptOk_data (l : List PointD) (k : Nat) : ptOk l k = ptData l k := by
  unfold ptOk ptData
  cases l[k]? with
  | none => rfl
  | some x =>
    simp only [namedI, ByteArray.toList_eq]
    cases List.findIdx? (fun p => p.name.data.toList == x.name.data.toList) l <;> rfl
theorem pts_good (b e4 : Bool) : ∀ j, j < nPts e4 → ptData (pts4 b ++ (if e4 = true then [⟨dock, true⟩] else [])) j = true := by
  intro j hj
  have h : (List.range (nPts e4)).all (ptData (pts4 b ++ (if e4 = true then [⟨dock, true⟩] else []))) = true := by
    cases b <;> cases e4 <;> kernel_rfl
  exact List.all_eq_true.1 h j (List.mem_range.2 hj)
theorem segB_mk {n : Nat} {s : SegmentD} (h : 0 ≤ s.a ∧ s.a < n ∧ 0 ≤ s.b ∧ s.b < n ∧ s.a ≠ s.b ∧ 0 ≤ s.depth ∧ s.depth ≤ 3000 ∧ 1 ≤ s.minutes ∧ s.minutes ≤ 240) : segB n s = true := by
  obtain ⟨h1, h2, h3, h4, h5, h6, h7, h8, h9⟩ := h
  unfold segB
  rw [inB_mk h1 (by omega), inB_mk h3 (by omega), inB_mk h6 h7, inB_mk h8 h9, show (s.a == s.b) = false by simpa using h5]
  rfl
theorem segs_good (r : ChartRnd) (hr : r.ok) : ∀ j, j < r.chart.segs.length → sgOk r.chart.points.length r.chart.segs j = true := by
  have key : ∀ (n : Nat) (l : List SegmentD), (∀ s ∈ l, segB n s = true) → (∀ k s, l[k]? = some s → aloneB l s k = true) → ∀ j, j < l.length → sgOk n l j = true := by
    intro n l h1 h2 j hj
    rw [sgOk_at (List.getElem?_eq_getElem hj), h1 _ (List.getElem_mem hj), h2 j _ (List.getElem?_eq_getElem hj)]; rfl
  obtain ⟨b, m, e3, e4, x0, y0, x1, y1, x2, y2, x3, y3, x4⟩ := r
  obtain ⟨hx0, hy0, hx1, hy1, hx2, hy2, hx3, hy3, hx4⟩ := hr
  dsimp only at hx0 hy0 hx1 hy1 hx2 hy2 hx3 hy3 hx4
  refine key _ _ ?_ ?_
  · cases e3 <;> cases e4 <;> (intro s hs; simp [ChartRnd.chart] at hs; refine segB_mk ?_)
    · rcases hs with rfl | rfl | rfl <;> (simp [ChartRnd.chart]; try omega)
    · rcases hs with rfl | rfl | rfl | rfl <;> (simp [ChartRnd.chart]; try omega)
    · rcases hs with rfl | rfl | rfl | rfl <;> (simp [ChartRnd.chart]; try omega)
    · rcases hs with rfl | rfl | rfl | rfl | rfl <;> (simp [ChartRnd.chart]; try omega)
  · intro k s hs
    cases e3 <;> cases e4 <;> simp only [ChartRnd.chart] at hs ⊢
    · match k, hs with
      | 0, hs => simp at hs; subst hs; rfl
      | 1, hs => simp at hs; subst hs; rfl
      | 2, hs => simp at hs; subst hs; rfl
      | k + 3, hs => simp at hs
    · match k, hs with
      | 0, hs => simp at hs; subst hs; rfl
      | 1, hs => simp at hs; subst hs; rfl
      | 2, hs => simp at hs; subst hs; rfl
      | 3, hs => simp at hs; subst hs; rfl
      | k + 4, hs => simp at hs
    · match k, hs with
      | 0, hs => simp at hs; subst hs; rfl
      | 1, hs => simp at hs; subst hs; rfl
      | 2, hs => simp at hs; subst hs; rfl
      | 3, hs => simp at hs; subst hs; rfl
      | k + 4, hs => simp at hs
    · match k, hs with
      | 0, hs => simp at hs; subst hs; rfl
      | 1, hs => simp at hs; subst hs; rfl
      | 2, hs => simp at hs; subst hs; rfl
      | 3, hs => simp at hs; subst hs; rfl
      | 4, hs => simp at hs; subst hs; rfl
      | k + 5, hs => simp at hs
theorem chart_drawn (r : ChartRnd) (hr : r.ok) : chartB r.chart = true := by
  obtain ⟨l0, l1⟩ := chart_len r
  refine chartB_mk (by omega) (by omega) (fun j hj => ?_) (segs_good r hr)
  rw [npts_drawn] at hj
  rw [ptOk_data]
  exact pts_good r.b r.e4 j hj
end Go.Proofs.Ytpglaffmmddcdaa
