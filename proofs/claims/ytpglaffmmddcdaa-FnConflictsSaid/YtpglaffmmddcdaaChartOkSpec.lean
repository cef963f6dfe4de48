
/- ChartOk: what it tells, and the model's: contract. -/
import Derived.Test.YtpglaffmmddcdaaChartSpec
import Derived.Test.YtpglaffmmddcdaaNames
namespace Go.Proofs.Ytpglaffmmddcdaa
open Go.RowKit
set_option maxRecDepth 100000

def segB (n : Nat) (s : SegmentD) : Bool := inB s.a 0 ((n : Int) - 1) && inB s.b 0 ((n : Int) - 1) && !(s.a == s.b) && inB s.depth 0 3000 && inB s.minutes 1 240
def ptOk (l : List PointD) (k : Nat) : Bool := match l[k]? with | some x => nameB x.name && (namedI l x.name == (k : Int)) | none => true
/-- No segment ahead of k joins the ends of s. -/
def aloneB (l : List SegmentD) (s : SegmentD) (k : Nat) : Bool := (l.take k).all fun o => !joinsB o s.a s.b
def sgOk (n : Nat) (l : List SegmentD) (k : Nat) : Bool := match l[k]? with | some s => segB n s && aloneB l s k | none => true
def chartB (d : ChartD) : Bool := decide (d.points.length ≤ 8 ∧ d.segs.length ≤ 10) && (List.range d.points.length).all (ptOk d.points) && (List.range d.segs.length).all (sgOk d.points.length d.segs)
def FirstPt (d : ChartD) (k : Nat) : Prop := ∀ j, j < k → ptOk d.points j = true
def FirstSg (d : ChartD) (k : Nat) : Prop := ∀ j, j < k → sgOk d.points.length d.segs j = true
theorem FirstPt.next {d : ChartD} {k : Nat} (h : FirstPt d k) (hk : ptOk d.points k = true) : FirstPt d (k + 1) := fun j hj => by
  by_cases e : j = k
  · subst e; exact hk
  · exact h j (by omega)
theorem FirstSg.next {d : ChartD} {k : Nat} (h : FirstSg d k) (hk : sgOk d.points.length d.segs k = true) : FirstSg d (k + 1) := fun j hj => by
  by_cases e : j = k
  · subst e; exact hk
  · exact h j (by omega)
theorem chartB_long {d : ChartD} (h : ¬ (d.points.length ≤ 8 ∧ d.segs.length ≤ 10)) : chartB d = false := by unfold chartB; rw [decide_eq_false h]; rfl
theorem chartB_pt {d : ChartD} {k : Nat} (hk : k < d.points.length) (h : ptOk d.points k = false) : chartB d = false := by
  have : (List.range d.points.length).all (ptOk d.points) = false := List.all_eq_false.2 ⟨k, List.mem_range.2 hk, by rw [h]; simp⟩
  unfold chartB; rw [this]; simp
theorem chartB_sg {d : ChartD} {k : Nat} (hk : k < d.segs.length) (h : sgOk d.points.length d.segs k = false) : chartB d = false := by
  have : (List.range d.segs.length).all (sgOk d.points.length d.segs) = false := List.all_eq_false.2 ⟨k, List.mem_range.2 hk, by rw [h]; simp⟩
  unfold chartB; rw [this]; simp
theorem chartB_mk {d : ChartD} (h1 : d.points.length ≤ 8) (h2 : d.segs.length ≤ 10) (h3 : FirstPt d d.points.length) (h4 : FirstSg d d.segs.length) : chartB d = true := by
  unfold chartB
  rw [decide_eq_true ⟨h1, h2⟩, List.all_eq_true.2 (fun j hj => h3 j (List.mem_range.1 hj)), List.all_eq_true.2 (fun j hj => h4 j (List.mem_range.1 hj))]
  rfl
theorem chartB_true {d : ChartD} (h : chartB d = true) : d.points.length ≤ 8 ∧ d.segs.length ≤ 10 ∧ FirstPt d d.points.length ∧ FirstSg d d.segs.length := by
  unfold chartB at h
  rw [Bool.and_eq_true, Bool.and_eq_true, decide_eq_true_iff] at h
  obtain ⟨⟨⟨h1, h2⟩, h3⟩, h4⟩ := h
  exact ⟨h1, h2, fun j hj => List.all_eq_true.1 h3 j (List.mem_range.2 hj), fun j hj => List.all_eq_true.1 h4 j (List.mem_range.2 hj)⟩
theorem ptOk_at {l : List PointD} {k : Nat} {x : PointD} (hx : l[k]? = some x) : ptOk l k = (nameB x.name && (namedI l x.name == (k : Int))) := by unfold ptOk; rw [hx]
theorem sgOk_at {n : Nat} {l : List SegmentD} {k : Nat} {s : SegmentD} (hx : l[k]? = some s) : sgOk n l k = (segB n s && aloneB l s k) := by unfold sgOk; rw [hx]
/-- What is known of a segment of a valid chart. -/
theorem segB_true {n : Nat} {s : SegmentD} (h : segB n s = true) : 0 ≤ s.a ∧ s.a < n ∧ 0 ≤ s.b ∧ s.b < n ∧ s.a ≠ s.b ∧ 0 ≤ s.depth ∧ s.depth ≤ 3000 ∧ 1 ≤ s.minutes ∧ s.minutes ≤ 240 := by
  unfold segB inB at h
  simp at h
  omega
theorem chartB_seg {d : ChartD} (h : chartB d = true) {k : Nat} {s : SegmentD} (hx : d.segs[k]? = some s) : segB d.points.length s = true := by
  have hk := (chartB_true h).2.2.2 k (List.getElem?_eq_some_iff.1 hx).1
  rw [sgOk_at hx, Bool.and_eq_true] at hk
  exact hk.1
def NoJoin (l : List SegmentD) (s : SegmentD) (k : Nat) : Prop := ∀ j, j < k → ∀ o, l[j]? = some o → joinsB o s.a s.b = false
theorem NoJoin.next {l : List SegmentD} {s o : SegmentD} {k : Nat} (h : NoJoin l s k) (hx : l[k]? = some o) (hn : joinsB o s.a s.b = false) : NoJoin l s (k + 1) := fun j hj y hy => by
  by_cases e : j = k
  · subst e; rw [hx] at hy; cases hy; exact hn
  · exact h j (by omega) y hy
theorem aloneB_yes {l : List SegmentD} {s : SegmentD} {k : Nat} (h : NoJoin l s k) : aloneB l s k = true := by
  refine List.all_eq_true.2 fun o ho => ?_
  obtain ⟨j, hj⟩ := List.getElem?_of_mem ho
  have hjk : j < k := by have := (List.getElem?_eq_some_iff.1 hj).1; rw [List.length_take] at this; omega
  rw [List.getElem?_take_of_lt hjk] at hj
  rw [h j hjk o hj]; rfl
theorem aloneB_no {l : List SegmentD} {s o : SegmentD} {k j : Nat} (hj : j < k) (ho : l[j]? = some o) (h : joinsB o s.a s.b = true) : aloneB l s k = false := by
  refine List.all_eq_false.2 ⟨o, ?_, by rw [h]; simp⟩
  exact List.mem_of_getElem? (i := j) (by rw [List.getElem?_take_of_lt hj]; exact ho)

set_option maxHeartbeats 8000000 in
theorem specChartOk (v0 v1 : Value) (d : ChartD) (w : World) (h : RdChart w v0 v1 d) (hw : ∀ x ∈ d.points, PointD.wf x) :
    Calls Try.prog 56 #[.agg #[v0, v1]] w fun e w' => e = .returned (.bool (chartB d)) ∧ Below w.heap.size w w' := by
  have HR := Lib.hid h
  have HWF := Lib.hid hw
  obtain ⟨h0, h1⟩ := h
  have hl0 := h0.1
  have hl1 := h1.1
  have K0 := fun A c (e : v0 = .slice A d.points.length c) => h0
  obtain ⟨A0, c0, rfl⟩ := h0.at
  obtain ⟨A1, c1, rfl⟩ := h1.at
  have B := Lib.hid (Joins.below_alloc1 w (.cells #[.slice A0 d.points.length c0, .slice A1 d.segs.length c1] 26))
  have BB := Lib.hid (Blk.new w #[.slice A0 d.points.length c0, .slice A1 d.segs.length c1] 26)
  have H0 := Lib.hid h0
  have H1 := Lib.hid h1
  clear K0 h0 h1 hw
  by_cases hlen : d.points.length ≤ 8 ∧ d.segs.length ≤ 10
  rotate_left
  · have E := Lib.hid (chartB_long hlen)
    clear HR
    by_cases hp : d.points.length ≤ 8
    · have hs : 10 < d.segs.length := by omega
      go_enter Try.func56, Try.ntmps56
      go_wp2
      go_ret
      exact ⟨ret_bool E.out.symm, B.out⟩
    · have hp' : 8 < d.points.length := by omega
      go_enter Try.func56, Try.ntmps56
      go_wp2
      go_ret
      exact ⟨ret_bool E.out.symm, B.out⟩
  · obtain ⟨hp, hs⟩ := hlen
    go_enter Try.func56, Try.ntmps56
    go_wp2
    go_loopw [22] (fun i wr => ∃ k : Nat, k ≤ d.points.length ∧ i = .int .i64 k ∧ Hid (FirstPt d k) ∧ Hid (Below (w.heap.size + 1) (w.alloc (.cells #[.slice A0 d.points.length c0, .slice A1 d.segs.length c1] 26)) wr)) (fun i _ => d.points.length - (intOf i).toNat)
    case atStart => exact ⟨0, Nat.zero_le _, rfl, Lib.hid (fun j hj => absurd hj (by omega)), Lib.hid (Below.refl _ _)⟩
    case round =>
      obtain ⟨k, hk, rfl, hF, hb⟩ := hrel
      have hbs : w.heap.size + 1 ≤ wr.heap.size := by have := hb.out.size; simpa using this
      have hbb : Hid (Below w.heap.size w wr) := Lib.hid (B.out.trans (hb.out.mono (by omega)))
      have KB := Lib.hid (BB.out.below (by have := hb.out; simpa using this))
      have x0 := KB.out.cell 0
      have x1 := KB.out.cell 1
      simp at x0 x1
      by_cases hlt : k < d.points.length
      · obtain ⟨x, hx⟩ : ∃ x, d.points[k]? = some x := ⟨_, List.getElem?_eq_getElem hlt⟩
        rcases H0.out.2 with ⟨he, _⟩ | ⟨g, o, c, e, hpos, hcap, hc⟩
        · rw [he] at hlt; simp at hlt
        · injection e with hA _ hcp
          subst hA hcp
          obtain ⟨q0, q1⟩ := SlPoint.cells hc k x hx
          have hg : g < w.heap.size := World.block_lt_of_cell? w ⟨g, o + k * 2, none⟩ q0
          have y0 := (hbb.out.cell (p := ⟨g, o + k * 2, none⟩) hg).trans q0
          have y1 := (hbb.out.cell (p := ⟨g, o + k * 2 + 1, none⟩) hg).trans q1
          have HX := Lib.hid hx
          have hsz := wfszPoint (HWF.out x (List.mem_of_getElem? hx))
          clear q0 q1 hx hc
          have hw2 := Joins.below_alloc1 wr (.cells #[.string x.name, .bool x.wait] 99)
          have hb2 := Lib.hid (hb.out.trans (hw2.mono hbs))
          have hbb2 := Lib.hid (hbb.out.trans (hw2.mono (by omega)))
          clear hw2
          cases hn : nameB x.name with
          | false =>
            have E := Lib.hid (chartB_pt hlt (by rw [ptOk_at HX.out, hn]; rfl))
            have HN := Lib.hid hn
            clear hn
            go_wp2_with fail
            refine (specIsName x.name _ (by unfold maxLen; omega)).mono ?_
            rw [HN.out]
            rintro e w2 ⟨rfl, rfl⟩
            go_wp2
            go_ret
            exact ⟨ret_bool E.out.symm, hbb2.out⟩
          | true =>
            have HN := Lib.hid hn
            clear hn
            go_wp2_with fail
            refine (specIsName x.name _ (by unfold maxLen; omega)).mono ?_
            rw [HN.out]
            rintro e w2 ⟨rfl, rfl⟩
            have KB2 := Lib.hid (BB.out.below (by have := hb2.out; simpa using this))
            have z0 := KB2.out.cell 0
            have z1 := KB2.out.cell 1
            simp at z0 z1
            obtain ⟨nI, hnI⟩ : ∃ n, namedI d.points x.name = n := ⟨_, rfl⟩
            have HNI := Lib.hid hnI
            clear hnI x0 x1
            go_wp2_with fail
            refine (specPointNamed _ _ d x.name _ (HR.out.below hbb2.out) HWF.out).mono ?_
            rw [HNI.out]
            rintro e w3 ⟨rfl, hb3⟩
            have hb4 := Lib.hid (hb2.out.trans (hb3.mono (by simp; omega)))
            have hbb4 := Lib.hid (hbb2.out.trans (hb3.mono (by simp; omega)))
            clear hb3 z0 z1
            cases he : (nI == (k : Int)) with
            | false =>
              have E := Lib.hid (chartB_pt hlt (by rw [ptOk_at HX.out, HN.out, HNI.out, he]; rfl))
              have he' : nI ≠ (k : Int) := by simpa using he
              go_wp2
              go_ret
              exact ⟨ret_bool E.out.symm, hbb4.out⟩
            | true =>
              have F2 := Lib.hid (hF.out.next (by rw [ptOk_at HX.out, HN.out, HNI.out, he]; rfl))
              have he' : nI = (k : Int) := by simpa using he
              subst he'
              go_wp2
              go_roundw
              case rel => exact ⟨k + 1, by omega, by go_num, F2, hb4⟩
              case measure => simp [intOf]; omega
      · obtain rfl : k = d.points.length := by omega
        have HFP := Lib.hid hF.out
        clear hF hlt
        go_wp2
        go_loopw [43] (fun i wr => ∃ k : Nat, k ≤ d.segs.length ∧ i = .int .i64 k ∧ Hid (FirstSg d k) ∧ Hid (Below (w.heap.size + 1) (w.alloc (.cells #[.slice A0 d.points.length c0, .slice A1 d.segs.length c1] 26)) wr)) (fun i _ => d.segs.length - (intOf i).toNat)
        case atStart => exact ⟨0, Nat.zero_le _, rfl, Lib.hid (fun j hj => absurd hj (by omega)), hb⟩
        case round =>
          clear hb hbs hbb KB x0 x1
          obtain ⟨k, hk, rfl, hF, hb⟩ := hrel
          obtain ⟨wo, rfl⟩ : ∃ W, W = wr := ⟨_, rfl⟩
          have hbs : w.heap.size + 1 ≤ wo.heap.size := by have := hb.out.size; simpa using this
          have hbb : Hid (Below w.heap.size w wo) := Lib.hid (B.out.trans (hb.out.mono (by omega)))
          by_cases hlt : k < d.segs.length
          rotate_left
          · obtain rfl : k = d.segs.length := by omega
            have E := Lib.hid (chartB_mk hp hs HFP.out hF.out)
            go_wp2
            go_ret
            exact ⟨ret_bool E.out.symm, hbb.out⟩
          · obtain ⟨x, hx⟩ : ∃ x, d.segs[k]? = some x := ⟨_, List.getElem?_eq_getElem hlt⟩
            rcases H1.out.2 with ⟨he, _⟩ | ⟨g, o, c, e, hpos, hcap, hc⟩
            · rw [he] at hlt; simp at hlt
            · injection e with hA _ hcp
              subst hA hcp
              have HC := Lib.hid hc
              obtain ⟨q0, q1, q2, q3, q4⟩ := SlSegment.cells hc k x hx
              have hg : g < w.heap.size := World.block_lt_of_cell? w ⟨g, o + k * 5, none⟩ q0
              have y0 := (hbb.out.cell (p := ⟨g, o + k * 5, none⟩) hg).trans q0
              have y1 := (hbb.out.cell (p := ⟨g, o + k * 5 + 1, none⟩) hg).trans q1
              have y2 := (hbb.out.cell (p := ⟨g, o + k * 5 + 2, none⟩) hg).trans q2
              have y3 := (hbb.out.cell (p := ⟨g, o + k * 5 + 3, none⟩) hg).trans q3
              have y4 := (hbb.out.cell (p := ⟨g, o + k * 5 + 4, none⟩) hg).trans q4
              have HX := Lib.hid hx
              clear q0 q1 q2 q3 q4 hx hc
              have hw2 := Joins.below_alloc1 wo (.cells #[.int .i64 x.a, .int .i64 x.b, .int .i64 x.depth, .int .i64 x.minutes, .bool x.meet] 90)
              have hb2 := Lib.hid (hb.out.trans (hw2.mono hbs))
              have hbb2 := Lib.hid (hbb.out.trans (hw2.mono (by omega)))
              have SB := Lib.hid (Blk.new wo #[.int .i64 x.a, .int .i64 x.b, .int .i64 x.depth, .int .i64 x.minutes, .bool x.meet] 90)
              have KB2 := Lib.hid (BB.out.below (by have := hb2.out; simpa using this))
              have z0 := KB2.out.cell 0
              have z1 := KB2.out.cell 1
              simp at z0 z1
              clear hw2
              obtain ⟨b0, hA⟩ : ∃ b, (inB x.a 0 ((d.points.length : Int) - 1)) = b := ⟨_, rfl⟩
              by_cases t0 : b0 = false
              · subst t0
                have E := Lib.hid (chartB_sg hlt (by rw [sgOk_at HX.out, show segB d.points.length x = false from by unfold segB; rw [hA]; simp]; rfl))
                have HA := Lib.hid hA
                clear hA
                go_wp2_with fail
                refine (l01In_any _ _ _ _).mono ?_
                rw [HA.out]
                rintro e w2 ⟨rfl, rfl⟩
                go_wp2
                go_ret
                exact ⟨ret_bool E.out.symm, hbb2.out⟩
              obtain rfl : b0 = true := by cases b0 <;> simp_all
              have HA := Lib.hid hA
              clear hA
              obtain ⟨b1, hB⟩ : ∃ b, (inB x.b 0 ((d.points.length : Int) - 1)) = b := ⟨_, rfl⟩
              by_cases t1 : b1 = false
              · subst t1
                have E := Lib.hid (chartB_sg hlt (by rw [sgOk_at HX.out, show segB d.points.length x = false from by unfold segB; rw [hB]; simp]; rfl))
                have HB := Lib.hid hB
                clear hB
                go_wp2_with fail
                refine (l01In_any _ _ _ _).mono ?_
                rw [HA.out]
                rintro e w2 ⟨rfl, rfl⟩
                go_wp2_with fail
                refine (l01In_any _ _ _ _).mono ?_
                rw [HB.out]
                rintro e w2 ⟨rfl, rfl⟩
                go_wp2
                go_ret
                exact ⟨ret_bool E.out.symm, hbb2.out⟩
              obtain rfl : b1 = true := by cases b1 <;> simp_all
              have HB := Lib.hid hB
              clear hB
              obtain ⟨b2, hAB⟩ : ∃ b, (x.a == x.b) = b := ⟨_, rfl⟩
              by_cases t2 : b2 = true
              · subst t2
                have E := Lib.hid (chartB_sg hlt (by rw [sgOk_at HX.out, show segB d.points.length x = false from by unfold segB; rw [hAB]; simp]; rfl))
                go_wp2_with fail
                refine (l01In_any _ _ _ _).mono ?_
                rw [HA.out]
                rintro e w2 ⟨rfl, rfl⟩
                go_wp2_with fail
                refine (l01In_any _ _ _ _).mono ?_
                rw [HB.out]
                rintro e w2 ⟨rfl, rfl⟩
                go_wp2
                go_ret
                exact ⟨ret_bool E.out.symm, hbb2.out⟩
              obtain rfl : b2 = false := by cases b2 <;> simp_all
              have HAB := Lib.hid hAB
              obtain ⟨b3, hD⟩ : ∃ b, (inB x.depth 0 3000) = b := ⟨_, rfl⟩
              by_cases t3 : b3 = false
              · subst t3
                have E := Lib.hid (chartB_sg hlt (by rw [sgOk_at HX.out, show segB d.points.length x = false from by unfold segB; rw [hD]; simp]; rfl))
                have HD := Lib.hid hD
                clear hD
                go_wp2_with fail
                refine (l01In_any _ _ _ _).mono ?_
                rw [HA.out]
                rintro e w2 ⟨rfl, rfl⟩
                go_wp2_with fail
                refine (l01In_any _ _ _ _).mono ?_
                rw [HB.out]
                rintro e w2 ⟨rfl, rfl⟩
                go_wp2_with fail
                refine (l01In_any _ _ _ _).mono ?_
                rw [HD.out]
                rintro e w2 ⟨rfl, rfl⟩
                go_wp2
                go_ret
                exact ⟨ret_bool E.out.symm, hbb2.out⟩
              obtain rfl : b3 = true := by cases b3 <;> simp_all
              have HD := Lib.hid hD
              clear hD
              obtain ⟨b4, hM⟩ : ∃ b, (inB x.minutes 1 240) = b := ⟨_, rfl⟩
              by_cases t4 : b4 = false
              · subst t4
                have E := Lib.hid (chartB_sg hlt (by rw [sgOk_at HX.out, show segB d.points.length x = false from by unfold segB; rw [hM]; simp]; rfl))
                have HM := Lib.hid hM
                clear hM
                go_wp2_with fail
                refine (l01In_any _ _ _ _).mono ?_
                rw [HA.out]
                rintro e w2 ⟨rfl, rfl⟩
                go_wp2_with fail
                refine (l01In_any _ _ _ _).mono ?_
                rw [HB.out]
                rintro e w2 ⟨rfl, rfl⟩
                go_wp2_with fail
                refine (l01In_any _ _ _ _).mono ?_
                rw [HD.out]
                rintro e w2 ⟨rfl, rfl⟩
                go_wp2_with fail
                refine (l01In_any _ _ _ _).mono ?_
                rw [HM.out]
                rintro e w2 ⟨rfl, rfl⟩
                go_wp2
                go_ret
                exact ⟨ret_bool E.out.symm, hbb2.out⟩
              obtain rfl : b4 = true := by cases b4 <;> simp_all
              have HM := Lib.hid hM
              clear hM
              have GOOD := Lib.hid (show segB d.points.length x = true from by unfold segB; simp only [HA.out, HB.out, HAB.out, HD.out, HM.out, Bool.not_false, Bool.and_true])
              go_wp2_with fail
              refine (l01In_any _ _ _ _).mono ?_
              rw [HA.out]
              rintro e w2 ⟨rfl, rfl⟩
              go_wp2_with fail
              refine (l01In_any _ _ _ _).mono ?_
              rw [HB.out]
              rintro e w2 ⟨rfl, rfl⟩
              go_wp2_with fail
              refine (l01In_any _ _ _ _).mono ?_
              rw [HD.out]
              rintro e w2 ⟨rfl, rfl⟩
              go_wp2_with fail
              refine (l01In_any _ _ _ _).mono ?_
              rw [HM.out]
              rintro e w2 ⟨rfl, rfl⟩
              clear hAB HA HB HAB HD HM z0 z1 y0 y1 y2 y3 y4
              have KB3 := Lib.hid (KB2.out.cell 1)
              have z1 : (wo.alloc (.cells #[.int .i64 x.a, .int .i64 x.b, .int .i64 x.depth, .int .i64 x.minutes, .bool x.meet] 90)).cell? ⟨w.heap.size, 1, none⟩ = some (.slice (some ⟨g, o, none⟩) d.segs.length c1) := KB3.out
              go_wp2
              clear z1
              go_loopw [90] (fun i wr => ∃ j : Nat, j ≤ k ∧ i = .int .i64 j ∧ Hid (NoJoin d.segs x j) ∧ Hid (Below (wo.heap.size + 1) (wo.alloc (.cells #[.int .i64 x.a, .int .i64 x.b, .int .i64 x.depth, .int .i64 x.minutes, .bool x.meet] 90)) wr)) (fun i _ => k - (intOf i).toNat)
              case atStart => exact ⟨0, Nat.zero_le _, rfl, Lib.hid (fun j hj => absurd hj (by omega)), Lib.hid (Below.refl _ _)⟩
              case round =>
                obtain ⟨j, hj, rfl, hN, hbx⟩ := hrel
                have hxs : wo.heap.size + 1 ≤ wr.heap.size := by have := hbx.out.size; simpa using this
                have hbbx : Hid (Below w.heap.size w wr) := Lib.hid (hbb2.out.trans (hbx.out.mono (by omega)))
                have SX := Lib.hid (SB.out.below (by have := hbx.out; simpa using this))
                by_cases hlj : j < k
                rotate_left
                · obtain rfl : j = k := by omega
                  have F2 := Lib.hid (hF.out.next (by rw [sgOk_at HX.out, GOOD.out, aloneB_yes hN.out]; rfl))
                  have hb5 := Lib.hid (hb2.out.trans (hbx.out.mono (by simp; omega)))
                  go_wp2
                  go_roundw
                  case rel => exact ⟨j + 1, by omega, by go_num, F2, hb5⟩
                  case measure => simp [intOf]; omega
                · obtain ⟨p, hp1⟩ : ∃ p, d.segs[j]? = some p := ⟨_, List.getElem?_eq_getElem (by omega)⟩
                  obtain ⟨q0, q1, q2, q3, q4⟩ := SlSegment.cells HC.out j p hp1
                  have HP1 := Lib.hid hp1
                  have y0 := (hbbx.out.cell (p := ⟨g, o + j * 5, none⟩) hg).trans q0
                  have y1 := (hbbx.out.cell (p := ⟨g, o + j * 5 + 1, none⟩) hg).trans q1
                  have y2 := (hbbx.out.cell (p := ⟨g, o + j * 5 + 2, none⟩) hg).trans q2
                  have y3 := (hbbx.out.cell (p := ⟨g, o + j * 5 + 3, none⟩) hg).trans q3
                  have y4 := (hbbx.out.cell (p := ⟨g, o + j * 5 + 4, none⟩) hg).trans q4
                  clear q0 q1 q2 q3 q4 hp1
                  have hw3 := Joins.below_alloc1 wr (.cells #[.int .i64 p.a, .int .i64 p.b, .int .i64 p.depth, .int .i64 p.minutes, .bool p.meet] 90)
                  have hbx3 := Lib.hid (hbx.out.trans (hw3.mono hxs))
                  have hbbx3 := Lib.hid (hbbx.out.trans (hw3.mono (by omega)))
                  have SX3 := Lib.hid (SX.out.below hw3)
                  have u0 := SX3.out.cell 0
                  have u1 := SX3.out.cell 1
                  simp at u0 u1
                  obtain ⟨t, ht⟩ : ∃ t, joinsB p x.a x.b = t := ⟨_, rfl⟩
                  have HT := Lib.hid ht
                  clear hw3 ht
                  go_wp2_with fail
                  refine (specJoins p x.a x.b _).mono ?_
                  rw [HT.out]
                  rintro e w5 ⟨rfl, hb5⟩
                  have hbx5 := Lib.hid (hbx3.out.trans (hb5.mono (by simp; omega)))
                  have hbbx5 := Lib.hid (hbbx3.out.trans (hb5.mono (by simp; omega)))
                  clear hb5 u0 u1 y0 y1 y2 y3 y4
                  cases t with
                  | true =>
                    have E := Lib.hid (chartB_sg hlt (by rw [sgOk_at HX.out, aloneB_no hlj HP1.out HT.out]; simp))
                    go_wp2
                    go_ret
                    exact ⟨ret_bool E.out.symm, hbbx5.out⟩
                  | false =>
                    have N2 := Lib.hid (hN.out.next HP1.out HT.out)
                    go_wp2
                    go_roundw
                    case rel => exact ⟨j + 1, by omega, by go_num, N2, hbx5⟩
                    case measure => simp [intOf]; omega
end Go.Proofs.Ytpglaffmmddcdaa
