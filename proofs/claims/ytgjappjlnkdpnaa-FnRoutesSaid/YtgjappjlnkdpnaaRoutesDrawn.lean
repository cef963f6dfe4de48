
/- Drawn charts are valid; all their routes: plain mathematics. -/
import Derived.Test.YtgjappjlnkdpnaaRoutesMath
import Derived.Test.YtgjappjlnkdpnaaDrawChart
namespace Go.Proofs.Ytgjappjlnkdpnaa
open Go
set_option maxRecDepth 100000

theorem rtsL_bnd (d : ChartD) (a b : Int) : (rtsL d a b).length ≤ 10000000 ∧ sumLen (rtsL d a b) ≤ 80000000 ∧ ∀ l ∈ rtsL d a b, l.length ≤ 100000000 := by
  obtain ⟨h1, h2⟩ := rtsL_len d a b
  exact ⟨h1, by omega, fun l hl => by have := sumLen_mem hl; omega⟩
theorem ends_drawn (r : ChartRnd) : r.chart.segs.map endsS = topo r.e3 r.e4 := by
  obtain ⟨b, m, e3, e4, x0, y0, x1, y1, x2, y2, x3, y3, x4⟩ := r
  cases e3 <;> cases e4 <;> rfl
theorem npts_drawn (r : ChartRnd) : r.chart.points.length = nPts r.e4 := by
  obtain ⟨b, m, e3, e4, x0, y0, x1, y1, x2, y2, x3, y3, x4⟩ := r
  cases e4 <;> rfl
theorem names_drawn (r : ChartRnd) : ∀ x ∈ r.chart.points, PointD.wf x := by
  obtain ⟨b, m, e3, e4, x0, y0, x1, y1, x2, y2, x3, y3, x4⟩ := r
  cases e4
  · intro x hx
    simp [ChartRnd.chart] at hx
    rcases hx with rfl | rfl | rfl | rfl <;> (simp only [PointD.wf]; unfold maxLen; decide)
  · intro x hx
    simp [ChartRnd.chart] at hx
    rcases hx with rfl | rfl | rfl | rfl | rfl <;> (simp only [PointD.wf]; unfold maxLen; decide)
def ptData (l : List PointD) (k : Nat) : Bool := match l[k]? with | some x => nameB x.name && ((match l.findIdx? (fun p => p.name.data.toList == x.name.data.toList) with | some i => (i : Int) | none => -1) == (k : Int)) | none => true
theorem ptOk_data (l : List PointD) (k : Nat) : ptOk l k = ptData l k := by
  unfold ptOk ptData
  cases l[k]? with
  | none => rfl
  | some x =>
    simp only [namedI, ByteArray.toList_eq]
    cases List.findIdx? (fun p => p.name.data.toList == x.name.data.toList) l <;> rfl
theorem pts_good (b e4 : Bool) : ∀ j, j < nPts e4 → ptData (pts4 b ++ (if e4 = true then [⟨dock, true⟩] else [])) j = true := by
  intro j hj
  have h : (List.range (nPts e4)).all (ptData (pts4 b ++ (if e4 = true then [⟨dock, true⟩] else []))) = true := by
    cases b <;> cases e4 <;> kernel_rfl
  exact List.all_eq_true.1 h j (List.mem_range.2 hj)
theorem segB_mk {n : Nat} {s : SegmentD} (h : 0 ≤ s.a ∧ s.a < n ∧ 0 ≤ s.b ∧ s.b < n ∧ s.a ≠ s.b ∧ 0 ≤ s.depth ∧ s.depth ≤ 3000 ∧ 1 ≤ s.minutes ∧ s.minutes ≤ 240) : segB n s = true := by
  obtain ⟨h1, h2, h3, h4, h5, h6, h7, h8, h9⟩ := h
  unfold segB
  rw [inB_mk h1 (by omega), inB_mk h3 (by omega), inB_mk h6 h7, inB_mk h8 h9, show (s.a == s.b) = false by simpa using h5]
  rfl
theorem segs_good (r : ChartRnd) (hr : r.ok) : ∀ j, j < r.chart.segs.length → sgOk r.chart.points.length r.chart.segs j = true := by
  have key : ∀ (n : Nat) (l : List SegmentD), (∀ s ∈ l, segB n s = true) → (∀ k s, l[k]? = some s → aloneB l s k = true) → ∀ j, j < l.length → sgOk n l j = true := by
    intro n l h1 h2 j hj
    rw [sgOk_at (List.getElem?_eq_getElem hj), h1 _ (List.getElem_mem hj), h2 j _ (List.getElem?_eq_getElem hj)]; rfl
  obtain ⟨b, m, e3, e4, x0, y0, x1, y1, x2, y2, x3, y3, x4⟩ := r
  obtain ⟨hx0, hy0, hx1, hy1, hx2, hy2, hx3, hy3, hx4⟩ := hr
  dsimp only at hx0 hy0 hx1 hy1 hx2 hy2 hx3 hy3 hx4
  refine key _ _ ?_ ?_
  · cases e3 <;> cases e4 <;> (intro s hs; simp [ChartRnd.chart] at hs; refine segB_mk ?_)
    · rcases hs with rfl | rfl | rfl <;> (simp [ChartRnd.chart]; try omega)
    · rcases hs with rfl | rfl | rfl | rfl <;> (simp [ChartRnd.chart]; try omega)
    · rcases hs with rfl | rfl | rfl | rfl <;> (simp [ChartRnd.chart]; try omega)
    · rcases hs with rfl | rfl | rfl | rfl | rfl <;> (simp [ChartRnd.chart]; try omega)
  · intro k s hs
    cases e3 <;> cases e4 <;> simp only [ChartRnd.chart] at hs ⊢
    · match k, hs with
      | 0, hs => simp at hs; subst hs; rfl
      | 1, hs => simp at hs; subst hs; rfl
      | 2, hs => simp at hs; subst hs; rfl
      | k + 3, hs => simp at hs
    · match k, hs with
      | 0, hs => simp at hs; subst hs; rfl
      | 1, hs => simp at hs; subst hs; rfl
      | 2, hs => simp at hs; subst hs; rfl
      | 3, hs => simp at hs; subst hs; rfl
      | k + 4, hs => simp at hs
    · match k, hs with
      | 0, hs => simp at hs; subst hs; rfl
      | 1, hs => simp at hs; subst hs; rfl
      | 2, hs => simp at hs; subst hs; rfl
      | 3, hs => simp at hs; subst hs; rfl
      | k + 4, hs => simp at hs
    · match k, hs with
      | 0, hs => simp at hs; subst hs; rfl
      | 1, hs => simp at hs; subst hs; rfl
      | 2, hs => simp at hs; subst hs; rfl
      | 3, hs => simp at hs; subst hs; rfl
      | 4, hs => simp at hs; subst hs; rfl
      | k + 5, hs => simp at hs
theorem chart_drawn (r : ChartRnd) (hr : r.ok) : chartB r.chart = true := by
  obtain ⟨l0, l1⟩ := chart_len r
  refine chartB_mk (by omega) (by omega) (fun j hj => ?_) (segs_good r hr)
  rw [npts_drawn] at hj
  rw [ptOk_data]
  exact pts_good r.b r.e4 j hj

theorem good_pair (r : ChartRnd) {a b : Nat} (ha : a < r.chart.points.length) (hb : b < r.chart.points.length) : goodPair (topo r.e3 r.e4) (a : Int) (b : Int) = true := by
  rw [npts_drawn] at ha hb
  have h := topo_good r.e3 r.e4
  have h1 := List.all_eq_true.1 h a (List.mem_range.2 ha)
  exact List.all_eq_true.1 h1 b (List.mem_range.2 hb)
theorem rts_drawn (r : ChartRnd) (hr : r.ok) {a b : Nat} (ha : a < r.chart.points.length) (hb : b < r.chart.points.length) : rtsL r.chart (a : Int) (b : Int) = walkE (topo r.e3 r.e4) (b : Int) 7 [(a : Int)] [] := by
  rw [rtsL_ok (chart_drawn r hr) (inB_mk (by omega) (by omega)) (inB_mk (by omega) (by omega)), walkF_E, ends_drawn]
theorem pair_parts {E : List (Int × Int)} {a b : Int} (h : goodPair E a b = true) :
    walkE E b 7 [a] [] ≠ [] ∧ (walkE E b 7 [a] []).length = (walkE E a 7 [b] []).length ∧ ∀ rt ∈ walkE E b 7 [a] [], rt.reverse ∈ walkE E a 7 [b] [] ∧ goodRoute E a b rt = true := by
  unfold goodPair at h
  simp only [Bool.and_eq_true] at h
  obtain ⟨⟨h1, h2⟩, h3⟩ := h
  refine ⟨fun e => by rw [e] at h1; simp at h1, by simpa using h2, fun rt hrt => ?_⟩
  have h4 := List.all_eq_true.1 h3 rt hrt
  simp only [Bool.and_eq_true] at h4
  exact ⟨by simpa using h4.1.1, h4.1.2⟩

/-- What holds of every route of a drawn chart. -/
theorem route_facts (r : ChartRnd) (hr : r.ok) {a b : Nat} (ha : a < r.chart.points.length) (hb : b < r.chart.points.length) {rt : List Int} (hrt : rt ∈ rtsL r.chart (a : Int) (b : Int)) :
    routeB r.chart (a : Int) rt = true ∧ ∃ p : List Int, rteL r.chart (a : Int) rt = p ∧ p.length = rt.length + 1 ∧ p[rt.length]? = some (b : Int) ∧
      ∀ i s, rt[i]? = some s → ∃ x y, p[i]? = some x ∧ p[i + 1]? = some y ∧ endI' r.chart s x = y ∧ segI r.chart y x = s := by
  have hc := chart_drawn r hr
  have hp := pair_parts (good_pair r ha hb)
  rw [rts_drawn r hr ha hb] at hrt
  have hg := (hp.2.2 rt hrt).2
  unfold goodRoute at hg
  cases hpt : ptsE (topo r.e3 r.e4) (a : Int) rt with
  | none => rw [hpt] at hg; cases hg
  | some p =>
    rw [hpt] at hg
    simp only [Bool.and_eq_true, beq_iff_eq] at hg
    obtain ⟨⟨h1, h2⟩, h3⟩ := hg
    have hpo : ptsO r.chart (a : Int) rt = some p := by rw [ptsO_E, ends_drawn]; exact hpt
    have hB : routeB r.chart (a : Int) rt = true := by rw [routeB_ok hc (inB_mk (by omega) (by omega)), hpo]; rfl
    refine ⟨hB, p, by unfold rteL; rw [if_pos hB, hpo]; rfl, h1, ?_, fun i s hs => ?_⟩
    · rw [h1] at h2
      simp only [Nat.add_sub_cancel] at h2
      rw [List.getD_eq_getElem?_getD] at h2
      rw [List.getElem?_eq_getElem (by omega)] at h2 ⊢
      simpa using h2
    · have hi := (List.getElem?_eq_some_iff.1 hs).1
      have h4 := List.all_eq_true.1 h3 i (List.mem_range.2 hi)
      unfold goodStep at h4
      simp only [Bool.and_eq_true, beq_iff_eq, List.getD_eq_getElem?_getD] at h4
      rw [hs, List.getElem?_eq_getElem (show i < p.length by omega), List.getElem?_eq_getElem (show i + 1 < p.length by omega)] at h4
      simp only [Option.getD_some] at h4
      refine ⟨_, _, List.getElem?_eq_getElem (by omega), List.getElem?_eq_getElem (by omega), ?_, ?_⟩
      · rw [endI'_endP hc, endP_E, ends_drawn]; exact h4.1
      · rw [segI_ok hc, firstI_E, ends_drawn]; exact h4.2
theorem best_le (r : ChartRnd) (_ : r.ok) {a b : Nat} {rt : List Int} (hrt : rt ∈ rtsL r.chart (a : Int) (b : Int)) : minutesI r.chart ((bestO r.chart (a : Int) (b : Int)).getD []) ≤ minutesI r.chart rt := by
  cases hb : bestO r.chart (a : Int) (b : Int) with
  | none => unfold bestO at hb; rw [bestF_none] at hb; rw [hb] at hrt; simp at hrt
  | some t => exact bestF_le _ _ t hb rt hrt
theorem best_some (r : ChartRnd) (hr : r.ok) {a b : Nat} (ha : a < r.chart.points.length) (hb : b < r.chart.points.length) : (bestO r.chart (a : Int) (b : Int)).isSome = true ∧ 0 < (rtsL r.chart (a : Int) (b : Int)).length ∧ (bestO r.chart (a : Int) (b : Int)).getD [] ∈ rtsL r.chart (a : Int) (b : Int) := by
  have hp := (pair_parts (good_pair r ha hb)).1
  rw [← rts_drawn r hr ha hb] at hp
  cases hbo : bestO r.chart (a : Int) (b : Int) with
  | none => unfold bestO at hbo; rw [bestF_none] at hbo; exact absurd hbo hp
  | some t => exact ⟨rfl, List.length_pos_iff.2 hp, bestF_mem _ _ t hbo⟩
theorem back_len (r : ChartRnd) (hr : r.ok) {a b : Nat} (ha : a < r.chart.points.length) (hb : b < r.chart.points.length) : (rtsL r.chart (b : Int) (a : Int)).length = (rtsL r.chart (a : Int) (b : Int)).length := by
  rw [rts_drawn r hr ha hb, rts_drawn r hr hb ha]
  exact (pair_parts (good_pair r ha hb)).2.1.symm
theorem back_best (r : ChartRnd) (hr : r.ok) {a b : Nat} (ha : a < r.chart.points.length) (hb : b < r.chart.points.length) : minutesI r.chart ((bestO r.chart (b : Int) (a : Int)).getD []) = minutesI r.chart ((bestO r.chart (a : Int) (b : Int)).getD []) := by
  have h : ∀ {a b : Nat}, a < r.chart.points.length → b < r.chart.points.length → minutesI r.chart ((bestO r.chart (b : Int) (a : Int)).getD []) ≤ minutesI r.chart ((bestO r.chart (a : Int) (b : Int)).getD []) := by
    intro a b ha hb
    have h1 := (best_some r hr ha hb).2.2
    rw [rts_drawn r hr ha hb] at h1
    have h2 := ((pair_parts (good_pair r ha hb)).2.2 _ h1).1
    rw [← rts_drawn r hr hb ha] at h2
    have h3 := best_le r hr h2
    rw [minutesI_rev] at h3
    exact h3
  have := h ha hb
  have := h hb ha
  omega
theorem named_at (r : ChartRnd) (hr : r.ok) {a : Nat} {x : PointD} (hx : r.chart.points[a]? = some x) : namedI r.chart.points x.name = (a : Int) := by
  have h := (chartB_true (chart_drawn r hr)).2.2.1 a (List.getElem?_eq_some_iff.1 hx).1
  rw [ptOk_at hx, Bool.and_eq_true] at h
  simpa using h.2
end Go.Proofs.Ytgjappjlnkdpnaa
