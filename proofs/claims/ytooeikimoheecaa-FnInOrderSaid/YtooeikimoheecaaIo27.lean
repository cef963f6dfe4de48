
/- What InOrderLaw rests on, part 27: contracts and mathematics. -/
import Derived.Test.YtooeikimoheecaaIo24
import Derived.Test.YtooeikimoheecaaIo25
import Derived.Test.YtooeikimoheecaaIo18
import Derived.Test.YtooeikimoheecaaIo17
import Derived.BigRegionIn
import Derived.Sort.CutIn
import Derived.Test.YtooeikimoheecaaIo2
import Derived.Test.YtooeikimoheecaaIo26
import Derived.Test.YtooeikimoheecaaIo3
namespace Go.Proofs.Ytooeikimoheecaa
set_option maxRecDepth 100000
/-- What a route along pts has yet to do with f points more. -/
def walkF (d : ChartD) (tgt : Int) : Nat → List Int → List Int → List (List Int)
  | 0, pts, rt => if pts.getLast?.getD 0 = tgt then [rt] else []
  | f + 1, pts, rt => if pts.getLast?.getD 0 = tgt then [rt] else (List.range d.segs.length).flatMap fun i : Nat => if nextPt d pts (i : Int) < 0 then [] else walkF d tgt f (pts ++ [nextPt d pts (i : Int)]) (rt ++ [(i : Int)])
def stepW (d : ChartD) (tgt : Int) (f : Nat) (pts rt : List Int) (i : Nat) : List (List Int) :=
  match f with
  | 0 => []
  | f + 1 => if nextPt d pts (i : Int) < 0 then [] else walkF d tgt f (pts ++ [nextPt d pts (i : Int)]) (rt ++ [(i : Int)])
theorem walkF_here {d : ChartD} {tgt : Int} {f : Nat} {pts rt : List Int} (h : pts.getLast?.getD 0 = tgt) : walkF d tgt f pts rt = [rt] := by
  cases f <;> (unfold walkF; rw [if_pos h])
theorem walkF_on {d : ChartD} {tgt : Int} {f : Nat} {pts rt : List Int} (h : ¬ pts.getLast?.getD 0 = tgt) : walkF d tgt f pts rt = (List.range d.segs.length).flatMap (stepW d tgt f pts rt) := by
  cases f with
  | zero =>
    unfold walkF
    rw [if_neg h]
    exact (List.flatMap_eq_nil_iff.2 (fun i _ => rfl)).symm
  | succ f =>
    rw [walkF, if_neg h]
    rfl
theorem stepW_bad {d : ChartD} {tgt : Int} {f : Nat} {pts rt : List Int} {i : Nat} (h : nextPt d pts (i : Int) < 0) : stepW d tgt f pts rt i = [] := by
  cases f with
  | zero => rfl
  | succ f => unfold stepW; exact if_pos h
theorem stepW_good {d : ChartD} {tgt : Int} {f : Nat} {pts rt : List Int} {i : Nat} (h : ¬ nextPt d pts (i : Int) < 0) : stepW d tgt (f + 1) pts rt i = walkF d tgt f (pts ++ [nextPt d pts (i : Int)]) (rt ++ [(i : Int)]) := by
  unfold stepW; exact if_neg h
/-- What the first k segments give. -/
def upW (d : ChartD) (tgt : Int) (f : Nat) (pts rt : List Int) (k : Nat) : List (List Int) := (List.range k).flatMap (stepW d tgt f pts rt)
theorem upW_next (d : ChartD) (tgt : Int) (f : Nat) (pts rt : List Int) (k : Nat) : upW d tgt f pts rt (k + 1) = upW d tgt f pts rt k ++ stepW d tgt f pts rt k := by
  unfold upW; rw [List.range_succ, List.flatMap_append]; simp
theorem walkF_up {d : ChartD} {tgt : Int} {f : Nat} {pts rt : List Int} (h : ¬ pts.getLast?.getD 0 = tgt) : walkF d tgt f pts rt = upW d tgt f pts rt d.segs.length := walkF_on h
/-- Points of a chart, each once. -/
def GoodP (n : Nat) (pts : List Int) : Prop := pts ≠ [] ∧ pts.Nodup ∧ ∀ x ∈ pts, 0 ≤ x ∧ x < (n : Int)
theorem nodup_len (n : Nat) : ∀ l : List Int, l.Nodup → (∀ x ∈ l, 0 ≤ x ∧ x < (n : Int)) → l.length ≤ n := by
  induction n with
  | zero =>
    intro l _ h
    cases l with
    | nil => exact Nat.le_refl _
    | cons x l => have := h x (by simp); omega
  | succ n ih =>
    intro l hn h
    by_cases hm : (n : Int) ∈ l
    · have h1 := ih (l.erase (n : Int)) (hn.erase _) (fun x hx => by
        have := (hn.mem_erase_iff).1 hx
        have h2 := h x this.2
        have h3 := this.1
        omega)
      rw [List.length_erase_of_mem hm] at h1
      omega
    · have h1 := ih l hn (fun x hx => by
        have h2 := h x hx
        have : x ≠ (n : Int) := fun e => hm (e ▸ hx)
        omega)
      omega
theorem GoodP.len {n : Nat} {pts : List Int} (h : GoodP n pts) : pts.length ≤ n := nodup_len n pts h.2.1 h.2.2
theorem endP_range {d : ChartD} (hd : chartB d = true) {i p : Int} (h : ¬ endP d i p < 0) : 0 ≤ endP d i p ∧ endP d i p < (d.points.length : Int) := by
  unfold endP at h ⊢
  cases hs : segAt d i with
  | none => rw [hs] at h; simp at h
  | some s =>
    rw [hs] at h
    simp only at h ⊢
    have hx : d.segs[i.toNat]? = some s := by
      unfold segAt at hs
      split at hs
      · exact hs
      · cases hs
    have := segB_true (chartB_seg hd hx)
    unfold otherI at h ⊢
    split
    · omega
    · split
      · omega
      · rename_i h1 h2; rw [if_neg h1, if_neg h2] at h; omega
theorem GoodP.next {d : ChartD} (hd : chartB d = true) {pts : List Int} (h : GoodP d.points.length pts) {i : Int} (hn : ¬ nextPt d pts i < 0) : GoodP d.points.length (pts ++ [nextPt d pts i]) := by
  have hn' := hn
  unfold nextPt at hn'
  by_cases ha : pts.any (· == endP d i (pts.getLast?.getD 0)) = true
  · rw [if_pos ha] at hn'; omega
  · rw [if_neg ha] at hn'
    have e : nextPt d pts i = endP d i (pts.getLast?.getD 0) := by unfold nextPt; exact if_neg ha
    have hr := endP_range hd hn'
    rw [e]
    refine ⟨by simp, ?_, fun x hx => ?_⟩
    · rw [List.nodup_append]
      refine ⟨h.2.1, by simp, fun a ha' b hb => ?_⟩
      simp at hb
      subst hb
      intro e2
      subst e2
      exact ha (List.any_eq_true.2 ⟨_, ha', by simp⟩)
    · rcases List.mem_append.1 hx with hx | hx
      · exact h.2.2 x hx
      · simp at hx; subst hx; exact hr
theorem GoodP.one {n : Nat} {x : Int} (h : inB x 0 ((n : Int) - 1) = true) : GoodP n [x] := by
  unfold inB at h
  have := of_decide_eq_true h
  exact ⟨by simp, by simp, fun y hy => by simp at hy; subst hy; omega⟩
theorem flat_le {α : Type} (n : Nat) (l : List α) (g : α → List (List Int)) (h : ∀ x ∈ l, (g x).length ≤ n) : (l.flatMap g).length ≤ l.length * n := by
  induction l with
  | nil => simp
  | cons x l ih =>
    have h1 := h x (by simp)
    have h2 := ih (fun y hy => h y (by simp [hy]))
    rw [List.flatMap_cons, List.length_append, List.length_cons, Nat.add_mul, Nat.one_mul]
    omega
theorem walkF_len {d : ChartD} (hs : d.segs.length ≤ 10) (tgt : Int) : ∀ (f : Nat) (pts rt : List Int), (walkF d tgt f pts rt).length ≤ 10 ^ f := by
  intro f
  induction f with
  | zero => intro pts rt; unfold walkF; split <;> simp
  | succ f ih =>
    intro pts rt
    unfold walkF
    split
    · have : 1 ≤ 10 ^ (f + 1) := Nat.one_le_pow _ _ (by omega)
      simpa using this
    · have h1 := flat_le (10 ^ f) (List.range d.segs.length) (fun i : Nat => if nextPt d pts (i : Int) < 0 then [] else walkF d tgt f (pts ++ [nextPt d pts (i : Int)]) (rt ++ [(i : Int)])) (fun i _ => by
        show (if _ then _ else _ : List (List Int)).length ≤ _
        split
        · simp
        · exact ih _ _)
      rw [List.length_range] at h1
      have h2 : d.segs.length * 10 ^ f ≤ 10 * 10 ^ f := Nat.mul_le_mul_right _ hs
      rw [Nat.pow_succ, Nat.mul_comm (10 ^ f) 10]
      exact Nat.le_trans h1 h2
theorem walkF_each {d : ChartD} (tgt : Int) : ∀ (f : Nat) (pts rt : List Int), ∀ r ∈ walkF d tgt f pts rt, r.length ≤ rt.length + f := by
  intro f
  induction f with
  | zero =>
    intro pts rt r hr
    unfold walkF at hr
    split at hr
    · simp at hr; subst hr; omega
    · simp at hr
  | succ f ih =>
    intro pts rt r hr
    unfold walkF at hr
    split at hr
    · simp at hr; subst hr; omega
    · obtain ⟨i, _, hi⟩ := List.mem_flatMap.1 hr
      split at hi
      · simp at hi
      · have := ih _ _ r hi
        simp at this
        omega
theorem upW_len {d : ChartD} (hs : d.segs.length ≤ 10) (tgt : Int) (f : Nat) (pts rt : List Int) {k : Nat} (hk : k ≤ 10) : (upW d tgt f pts rt k).length ≤ 10 ^ f := by
  cases f with
  | zero =>
    have : upW d tgt 0 pts rt k = [] := List.flatMap_eq_nil_iff.2 (fun i _ => rfl)
    rw [this]; simp
  | succ f =>
    have h1 := flat_le (10 ^ f) (List.range k) (stepW d tgt (f + 1) pts rt) (fun i _ => by
      by_cases h : nextPt d pts (i : Int) < 0
      · rw [stepW_bad h]; simp
      · rw [stepW_good h]; exact walkF_len hs tgt f _ _)
    rw [List.length_range] at h1
    have h2 : k * 10 ^ f ≤ 10 * 10 ^ f := Nat.mul_le_mul_right _ hk
    rw [Nat.pow_succ, Nat.mul_comm (10 ^ f) 10]
    exact Nat.le_trans h1 h2
end Go.Proofs.Ytooeikimoheecaa
namespace Go.Proofs.Ytooeikimoheecaa
open Go.RowKit
set_option maxRecDepth 100000
theorem rteL_bad {d : ChartD} {fr : Int} {l : List Int} (h : chartB d = false) : rteL d fr l = [] := by unfold rteL; rw [routeB_bad h]; rfl
theorem rteL_off {d : ChartD} {fr : Int} {l : List Int} (h : inB fr 0 ((d.points.length : Int) - 1) = false) : rteL d fr l = [] := by unfold rteL; rw [routeB_off h]; rfl
theorem rteL_ok {d : ChartD} {fr : Int} {l : List Int} (h : chartB d = true) (h' : inB fr 0 ((d.points.length : Int) - 1) = true) : rteL d fr l = (ptsO d fr l).getD [] := by
  unfold rteL; rw [routeB_ok h h']
  cases ptsO d fr l <;> rfl
set_option maxHeartbeats 8000000 in
theorem implRoutePoints (v0 v1 : Value) (d : ChartD) (fr : Int) (v : Value) (l : List Int) (w : World) (h : RdChart w v0 v1 d) (hl : SlInt w v l) (hw : ∀ x ∈ d.points, PointD.wf x) :
    Calls Try.prog 75 #[.agg #[v0, v1], .int .i64 fr, v] w (NewInt (rteL d fr l) w) := by
  have HR := Lib.hid h
  have HWF := Lib.hid hw
  obtain ⟨h0, h1⟩ := h
  have hl0 := h0.1
  obtain ⟨A0, c0, rfl⟩ := h0.at
  obtain ⟨A1, c1, rfl⟩ := h1.at
  have HL := Lib.hid hl
  have hll := hl.1
  obtain ⟨A2, c2, rfl⟩ := hl.at
  have B := Lib.hid (Joins.below_alloc1 w (.cells #[.slice A0 d.points.length c0, .slice A1 d.segs.length c1] 32))
  have BB := Lib.hid (Blk.new w #[.slice A0 d.points.length c0, .slice A1 d.segs.length c1] 32)
  obtain ⟨i0, hin, hz0, hzs, hz2⟩ := info1_int
  have HI := Lib.hid hin
  clear h0 h1 hw hl hin
  cases hok : chartB d with
  | false =>
    have HOK := Lib.hid hok
    have E := Lib.hid (rteL_bad (fr := fr) (l := l) hok)
    rw [E.out]
    clear hok E
    go_enter Try.func75, Try.ntmps75
    go_wp2_with fail
    refine (implChartOk _ _ d _ (HR.out.below B.out) HWF.out).mono ?_
    rw [HOK.out]
    rintro e w1 ⟨rfl, hb1⟩
    have B1 := Lib.hid (B.out.trans (hb1.mono B.out.size))
    clear hb1
    go_wp2
    go_ret
    exact ⟨_, rfl, (GathO.empty (cs := intCells) (t := 3) (k := 1) B1.out).1, B1.out⟩
  | true =>
    have HOK := Lib.hid hok
    cases hinp : inB fr 0 ((d.points.length : Int) - 1) with
    | false =>
      have HIN := Lib.hid hinp
      have E := Lib.hid (rteL_off (l := l) hinp)
      rw [E.out]
      clear hok hinp E
      go_enter Try.func75, Try.ntmps75
      go_wp2_with fail
      refine (implChartOk _ _ d _ (HR.out.below B.out) HWF.out).mono ?_
      rw [HOK.out]
      rintro e w1 ⟨rfl, hb1⟩
      have B1 := Lib.hid (B.out.trans (hb1.mono B.out.size))
      have z0 := (BB.out.below hb1).cell 0
      simp at z0
      clear hb1
      go_wp2_with fail
      refine (isIndex_any _ _ _).mono ?_
      rw [HIN.out]
      rintro e w2 ⟨rfl, rfl⟩
      go_wp2
      go_ret
      exact ⟨_, rfl, (GathO.empty (cs := intCells) (t := 3) (k := 1) B1.out).1, B1.out⟩
    | true =>
      have HIN := Lib.hid hinp
      have E := Lib.hid (rteL_ok (l := l) hok hinp)
      rw [E.out]
      clear hok hinp E
      go_enter Try.func75, Try.ntmps75
      go_wp2_with fail
      refine (implChartOk _ _ d _ (HR.out.below B.out) HWF.out).mono ?_
      rw [HOK.out]
      rintro e w1 ⟨rfl, hb1⟩
      have B1 := Lib.hid (B.out.trans (hb1.mono B.out.size))
      have BB1 := Lib.hid (BB.out.below hb1)
      have z0 := BB1.out.cell 0
      simp at z0
      have hs1 : w.heap.size + 1 ≤ w1.heap.size := by have := hb1.size; simp at this; omega
      have G0 := Lib.hid (GathO.one (cs := intCells) (t := 3) (k := 1) (x := fr) (Below.refl w1.heap.size w1) rfl)
      clear hb1
      go_wp2_with fail
      refine (isIndex_any _ _ _).mono ?_
      rw [HIN.out]
      rintro e w2 ⟨rfl, rfl⟩
      go_wp2
      clear z0
      go_loopw [7, 26] (fun q i wr => ∃ (k : Nat) (out : List Int), k ≤ l.length ∧ Hid (out.length = k + 1) ∧ i = .int .i64 k ∧ Hid (ptsO d fr (l.take k) = some out) ∧ Hid (GathO 1 intCells 3 w1 q out wr)) (fun _ i _ => l.length - (intOf i).toNat)
      case atStart => exact ⟨0, [fr], Nat.zero_le _, Lib.hid rfl, rfl, Lib.hid rfl, G0⟩
      case round =>
        clear G0
        obtain ⟨k, out, hk, hol, rfl, hP, hG⟩ := hrel
        have hgs := hG.out.size
        have hbw : Hid (Below w.heap.size w wr) := Lib.hid (B1.out.trans (hG.out.2.mono B1.out.size))
        have z0 := (BB1.out.below hG.out.2).cell 0
        have z1 := (BB1.out.below hG.out.2).cell 1
        simp at z0 z1
        by_cases hlt : k < l.length
        rotate_left
        · obtain rfl : k = l.length := by omega
          have E := Lib.hid (show ptsO d fr l = some out by have := hP.out; rw [List.take_length] at this; exact this)
          have OW := Lib.hid (own_lo hG.out.1 (base' := w.heap.size) (by omega))
          obtain ⟨Q, cq, rfl⟩ := hG.out.form
          go_wp2
          refine bodyPost_ret (v := .slice Q out.length cq) (by simp [results, Try.results75, go_sem, *]) rfl ⟨_, rfl, by rw [E.out]; exact OW.out, hbw.out⟩
        · obtain ⟨i, hi⟩ : ∃ i, l[k]? = some i := ⟨_, List.getElem?_eq_getElem hlt⟩
          rcases HL.out.2 with ⟨he, _⟩ | ⟨g, o, c, e, hpos, hcap, hc⟩
          · rw [he] at hlt; simp at hlt
          · injection e with hA _ hcp
            subst hA hcp
            have q0 := SlInt.cells hc k i hi
            have hg : g < w.heap.size := World.block_lt_of_cell? w ⟨g, o + k, none⟩ q0
            have y0 := (hbw.out.cell (p := ⟨g, o + k, none⟩) hg).trans q0
            have HX := Lib.hid hi
            have hob : out.length ≤ 1000000001 := by have := hol.out; omega
            have hsl2 := Lib.hid (own_sl intLen hG.out.1 (by have := hol.out; omega))
            have hne : out ≠ [] := fun e => by have := hol.out; rw [e] at this; simp at this
            clear q0 hi hc
            obtain ⟨t, ht⟩ : ∃ t, nextPt d out i = t := ⟨_, rfl⟩
            have HT := Lib.hid ht
            have P1 := Lib.hid (show ptsO d fr (l.take (k + 1)) = if t < 0 then none else some (out ++ [t]) by rw [ptsO_next HX.out, hP.out, stepP_nextI, ht])
            obtain ⟨Q, cq, rfl⟩ := hG.out.form
            clear ht
            go_wp2_with fail
            refine (implNext _ _ d _ out i _ (HR.out.below hbw.out) hsl2.out hne).mono ?_
            rw [HT.out]
            rintro e w3 ⟨rfl, hb3⟩
            have hG3 := Lib.hid (hG.out.below hb3)
            have hbw3 := Lib.hid (hbw.out.trans (hb3.mono hbw.out.size))
            clear hb3 z0 z1 y0 hsl2 hG
            by_cases hneg : t < 0
            · have E := Lib.hid (ptsO_cut (k + 1) (show ptsO d fr (l.take (k + 1)) = none by rw [P1.out, if_pos hneg]))
              go_wp2
              refine bodyPost_ret (v := .slice none 0 0) (by simp [results, Try.results75, go_sem, *]) rfl ⟨_, rfl, by rw [E.out]; exact (GathO.empty (cs := intCells) (t := 3) (k := 1) hbw3.out).1, hbw3.out⟩
            · have P2 := Lib.hid (show ptsO d fr (l.take (k + 1)) = some (out ++ [t]) by rw [P1.out, if_neg hneg])
              have hnb : decide (t < 0) = false := decide_eq_false hneg
              have GW := Lib.hid (hG3.out.below (Joins.below_alloc1 w3 (.cells #[.int .i64 t] 3)))
              have HN := Lib.hid (World.news_of_block (heap_alloc_new w3 (.cells #[.int .i64 t] 3)))
              have hs3 := hG3.out.size
              have HN' := Lib.hid (show ∀ j u, (intCells t)[j]? = some u → (w3.alloc (.cells #[.int .i64 t] 3)).cell? ((⟨w3.heap.size, 0, none⟩ : Addr).add j) = some u from fun j u hu => HN.out j u (by simpa [intCells] using hu))
              go_wp2_with (at_builtin; refine wpList_append_lies _ rfl _ _ _ rfl w1.heap.size 3 i0 _ 1 8 Try.underlying36 HI.out hz0 (by assumption) hz2 rfl (by omega) (.slice Q out.length cq) out.length (out.flatMap intCells) rfl GW.out.1 ⟨w3.heap.size, 0, none⟩ 1 1 (intCells t) (by first | rfl | simp) rfl HN'.out (int_one _) (by omega) (by unfold maxLen; omega) (by omega) (by first | omega | (simp; done) | (simp; omega)) _ rfl ?_; intro g4 cap4 w4 hown4 hgrow4 hor4 hlt4; have GX := Lib.hid (GW.out.next hown4 hgrow4); clear hown4 hgrow4 hor4 hlt4)
              go_roundw
              case rel => exact ⟨k + 1, out ++ [t], by omega, Lib.hid (by have := hol.out; simp; omega), by go_num, P2, GX⟩
              case measure => simp [intOf]; omega
end Go.Proofs.Ytooeikimoheecaa
namespace Go.Proofs.Ytooeikimoheecaa
open Go.RowKit
set_option maxRecDepth 100000
/-- The level at the end of the band that the second argument picks; 0 outside. -/
def endI (hi : Bool) (m : Int) (l : List PartD) (s : List SurgeD) (t : Int) : Int := if sAt m l s t = true then levI m l t + (if hi = true then (atS s t).hi else (atS s t).lo) else 0
theorem endI_no {hi : Bool} {m : Int} {l : List PartD} {s : List SurgeD} {t : Int} (h : sAt m l s t = false) : endI hi m l s t = 0 := if_neg (by rw [h]; simp)
theorem endI_lo {m : Int} {l : List PartD} {s : List SurgeD} {t : Int} (h : sAt m l s t = true) : endI false m l s t = levI m l t + (atS s t).lo := if_pos h
theorem sAt_facts {m : Int} {l : List PartD} {s : List SurgeD} {t : Int} (h : sAt m l s t = true) : tideB m l = true ∧ 0 ≤ t ∧ t ≤ 2880 ∧ -5000 ≤ levI m l t ∧ levI m l t ≤ 5000 ∧ -500 ≤ (atS s t).lo ∧ (atS s t).lo ≤ (atS s t).hi ∧ (atS s t).hi ≤ 500 := by
  obtain ⟨hf, t0, t1⟩ := sAt_true h
  obtain ⟨ht, s0, _, _, hall⟩ := fcB_true hf
  obtain ⟨m0, m1, hlen, hpart⟩ := tideB_true ht
  have hl := levI_le m t l hpart
  have hs := surgeB_true (atS_ok (t := t) s0 hall)
  exact ⟨ht, t0, t1, by omega, by omega, hs.2.2.1, hs.2.2.2.1, hs.2.2.2.2⟩
theorem atI_sAt {m : Int} {l : List PartD} {s : List SurgeD} {t : Int} (h : sAt m l s t = true) : atI m l t = levI m l t := by
  obtain ⟨ht, t0, t1, _⟩ := sAt_facts h
  exact atI_yes ht t0 t1
theorem levelAt_keep {W : World} {b1 b2 : Nat} {m : Int} {v u : Value} {l : List PartD} {s : List SurgeD} {t xl xh : Int} (hT : FBox W b1 m v u l s) (w0 : World) (hb : Hid (Below W.heap.size W w0)) (h0 : w0.cell? ⟨b2, 0, none⟩ = some (.int .i64 xl)) (h1 : w0.cell? ⟨b2, 1, none⟩ = some (.int .i64 xh)) :
    Calls Try.prog 153 #[.agg #[.int .i64 m, v], .int .i64 t] w0 fun e w1 => e = .returned (.int .i64 (atI m l t)) ∧ w1.cell? ⟨b1, 0, none⟩ = some (.int .i64 m) ∧ w1.cell? ⟨b1, 1, none⟩ = some v ∧ w1.cell? ⟨b2, 0, none⟩ = some (.int .i64 xl) ∧ w1.cell? ⟨b2, 1, none⟩ = some (.int .i64 xh) ∧ Hid (Below W.heap.size W w1) := by
  have hT0 := hT.below hb.out
  refine (implLevelAt m v l t w0 hT0.2.2.2.1).mono ?_
  rintro e w1 ⟨rfl, hb1⟩
  have hT1 := hT0.below hb1
  exact ⟨rfl, hT1.1, hT1.2.1, cell_on h0 hb1, cell_on h1 hb1, Lib.hid (hb.out.trans (hb1.mono hb.out.size))⟩
set_option maxHeartbeats 2000000 in
theorem levelAtEndLo (m : Int) (v u : Value) (l : List PartD) (s : List SurgeD) (t : Int) (w : World) (h : SlP w v l) (h' : SlSurge w u s) :
    Calls Try.prog 150 #[.agg #[.int .i64 m, v, u], .int .i64 t, .int .i64 0] w fun e w' => e = .returned (.int .i64 (endI false m l s t)) ∧ Below w.heap.size w w' := by
  have H := Lib.hid h
  have H' := Lib.hid h'
  obtain ⟨A, c, rfl⟩ := h.at
  obtain ⟨A', c', rfl⟩ := h'.at
  clear h h'
  have F0 := Lib.hid (FBox.new 28 (m := m) H.out H'.out)
  have B0 := Lib.hid (Joins.below_alloc1 w (.cells #[.int .i64 m, .slice A l.length c, .slice A' s.length c'] 28))
  cases ha : sAt m l s t with
  | false =>
    have E := Lib.hid (endI_no (hi := false) ha)
    have R := Lib.hid (sRes_no ha)
    clear ha
    go_enter Try.func150, Try.ntmps150
    go_wp2_with fail
    refine (implSurgeAt m _ _ l s t _ F0.out.2.2.2.1 F0.out.2.2.2.2).mono ?_
    rw [R.out]
    rintro e w1 ⟨rfl, hb1⟩
    go_wp2
    go_ret
    exact ⟨ret_int E.out.symm, B0.out.trans (hb1.mono B0.out.size)⟩
  | true =>
    obtain ⟨_, _, _, l0, l1, q0, q1, q2⟩ := sAt_facts ha
    have E := Lib.hid (endI_lo ha)
    have R := Lib.hid (sRes_yes ha)
    have TA := Lib.hid (atI_sAt ha)
    obtain ⟨x, hx⟩ : ∃ x, atS s t = x := ⟨_, rfl⟩
    rw [hx] at q0 q1 q2
    have HX := Lib.hid hx
    obtain ⟨xa, xl, xh⟩ := x
    simp only at q0 q1 q2
    clear ha hx
    go_enter Try.func150, Try.ntmps150
    go_wp2_with fail
    refine (implSurgeAt m _ _ l s t _ F0.out.2.2.2.1 F0.out.2.2.2.2).mono ?_
    rw [R.out, HX.out]
    rintro e w1 ⟨rfl, hb1⟩
    have F1 := Lib.hid (F0.out.below hb1)
    have B1 := Lib.hid (B0.out.trans (hb1.mono B0.out.size))
    have hs := B1.out.size
    have hbs : w.heap.size < w1.heap.size := by have := hb1.size; simp at this; omega
    obtain ⟨x0, x1, _⟩ := F1.out
    clear hb1
    have D1 := Lib.hid (((Below.refl w1.heap.size w1).alloc (Nat.le_refl _) (.cells #[.int .i64 xl, .int .i64 xh] 214)).drew)
    have F2 := Lib.hid (F1.out.below ((Below.refl w1.heap.size w1).alloc (Nat.le_refl _) (.cells #[.int .i64 xl, .int .i64 xh] 214)))
    go_wp2
    go_region_held3 (fun w' => w'.cell? ⟨w.heap.size, 0, none⟩ = some (.int .i64 m) ∧ w'.cell? ⟨w.heap.size, 1, none⟩ = some (.slice A l.length c) ∧ w'.cell? ⟨w1.heap.size, 0, none⟩ = some (.int .i64 xl) ∧ w'.cell? ⟨w1.heap.size, 1, none⟩ = some (.int .i64 xh) ∧ Hid (Below w1.heap.size w1 w')) (go_keep)
      (first
        | (go_at_call 153; refine (levelAt_keep (b2 := w1.heap.size) (xl := xl) (xh := xh) (t := t) F1.out _ ?_ ?_ ?_).mono ?_; (simp [*]); (simp [*]); (simp [*]); rw [TA.out]; rintro e w7 ⟨rfl, y0, y1, y2, y3, y4⟩))
    all_goals
      go_wp2
      go_ret
      refine ⟨ret_int ?_, ?_⟩
      · rw [E.out, HX.out]; exact IntWalk.i64_in _ (by omega)
      · first | exact B1.out.trans (y4.out.mono B1.out.size) | skip
end Go.Proofs.Ytooeikimoheecaa
namespace Go.Proofs.Ytooeikimoheecaa
open Go.RowKit
set_option maxRecDepth 100000
def bits (f : Nat → Bool) : List Bool := (List.range 2881).map f
end Go.Proofs.Ytooeikimoheecaa
namespace Go.Proofs.Ytooeikimoheecaa
open Go.RowKit
set_option maxRecDepth 100000
/-- None of a harbour's lists lies in block b. -/
def FarH (b : Nat) (A0 : Option Addr) (c0 : Nat) (A1 : Option Addr) (c1 : Nat) (A2 : Option Addr) (c2 : Nat) (A3 : Option Addr) (c3 : Nat) (A4 : Option Addr) (c4 : Nat) (A5 : Option Addr) (c5 : Nat) (h : HarbD) : Prop := Far5 b (.slice A0 h.l.length c0) (.slice A1 h.s.length c1) (.slice A2 h.ch.chart.points.length c2) (.slice A3 h.ch.chart.segs.length c3) (.slice A5 64 c5) ∧ (Value.slice A4 h.fl.length c4).ownBlock ≠ some b
section
variable {W W' : World} {base : Nat} {A0 A1 A2 A3 A4 A5 : Option Addr} {c0 c1 c2 c3 c4 c5 : Nat} {h : HarbD}
theorem HarbOwn.kept {row : Option Nat} (hh : HarbOwn W base A0 c0 A1 c1 A2 c2 A3 c3 A4 c4 A5 c5 h) (hg : W.grownBy W' row) (hf : ∀ b, row = some b → FarH b A0 c0 A1 c1 A2 c2 A3 c3 A4 c4 A5 c5 h) : HarbOwn W' base A0 c0 A1 c1 A2 c2 A3 c3 A4 c4 A5 c5 h := by
  obtain ⟨⟨h0, h1, h2, h3, h5⟩, h4⟩ := hh
  exact ⟨⟨own_kept h0 hg (fun b hv e => (hf b e).1.1 hv), own_kept h1 hg (fun b hv e => (hf b e).1.2.1 hv), own_kept h2 hg (fun b hv e => (hf b e).1.2.2.1 hv), own_kept h3 hg (fun b hv e => (hf b e).1.2.2.2.1 hv), own_kept h5 hg (fun b hv e => (hf b e).1.2.2.2.2 hv)⟩, own_kept h4 hg (fun b hv e => (hf b e).2 hv)⟩
theorem HarbOwn.below (hh : HarbOwn W base A0 c0 A1 c1 A2 c2 A3 c3 A4 c4 A5 c5 h) (hb : Below W.heap.size W W') : HarbOwn W' base A0 c0 A1 c1 A2 c2 A3 c3 A4 c4 A5 c5 h := ⟨hh.1.below hb, own_below hh.2 hb⟩
theorem HarbOwn.lo {b' : Nat} (hh : HarbOwn W base A0 c0 A1 c1 A2 c2 A3 c3 A4 c4 A5 c5 h) (hb : b' ≤ base) : HarbOwn W b' A0 c0 A1 c1 A2 c2 A3 c3 A4 c4 A5 c5 h := ⟨hh.1.lo hb, own_lo hh.2 hb⟩
theorem HarbOwn.far {b : Nat} (hh : HarbOwn W base A0 c0 A1 c1 A2 c2 A3 c3 A4 c4 A5 c5 h) (hb : b < base ∨ W.heap.size ≤ b) : FarH b A0 c0 A1 c1 A2 c2 A3 c3 A4 c4 A5 c5 h := ⟨hh.1.far hb, fun e => by have := own_ge hh.2 e; omega⟩
theorem HarbOwn.set (hh : HarbOwn W base A0 c0 A1 c1 A2 c2 A3 c3 A4 c4 A5 c5 h) {b : Nat} (hf : FarH b A0 c0 A1 c1 A2 c2 A3 c3 A4 c4 A5 c5 h) (j : Nat) (u : Value) : HarbOwn (W.setCell ⟨b, j, none⟩ u) base A0 c0 A1 c1 A2 c2 A3 c3 A4 c4 A5 c5 h := ⟨hh.1.set hf.1 j u, own_setO hh.2 hf.2 j u⟩
end
section
variable {w wr w3 : World} {p b4 : Nat} {cs : Array Value} {A0 A1 A2 A3 A4 A5 : Option Addr} {c0 c1 c2 c3 c4 c5 : Nat} {h : HarbD} {v : Value} {cl : List CallD}
end
end Go.Proofs.Ytooeikimoheecaa
