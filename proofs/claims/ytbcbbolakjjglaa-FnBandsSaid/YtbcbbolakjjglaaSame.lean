/- SameTides of the program and of the model: contracts. -/
import Derived.Test.YtbcbbolakjjglaaTide
namespace Go.Proofs.Ytbcbbolakjjglaa
open Go.RowKit
set_option maxRecDepth 100000

def PartD.key (x : PartD) : Int × Int × Int := (x.amp, x.per, x.pha)
theorem PartD.ext {x y : PartD} (h : x.key = y.key) : x = y := by
  obtain ⟨a, p, q⟩ := x
  obtain ⟨a', p', q'⟩ := y
  simp [PartD.key] at h
  obtain ⟨rfl, rfl, rfl⟩ := h
  rfl
def sameP (l l' : List PartD) : Bool := decide (l.map PartD.key = l'.map PartD.key)
theorem sameP_yes {l l' : List PartD} (h : l = l') : sameP l l' = true := decide_eq_true (by rw [h])
theorem sameP_no {l l' : List PartD} (h : l ≠ l') : sameP l l' = false := by
  refine decide_eq_false fun e => h ?_
  clear h
  induction l generalizing l' with
  | nil => cases l' with
    | nil => rfl
    | cons y l' => simp at e
  | cons x l ih => cases l' with
    | nil => simp at e
    | cons y l' =>
      simp only [List.map_cons, List.cons.injEq] at e
      rw [PartD.ext e.1, ih e.2]
theorem sameP_len {l l' : List PartD} (h : l.length ≠ l'.length) : sameP l l' = false := sameP_no (fun e => h (by rw [e]))
/-- The first k elements are the same. -/
def FirstSame (l l' : List PartD) (k : Nat) : Prop := ∀ j, j < k → l[j]? = l'[j]?
theorem FirstSame.next {l l' : List PartD} {k : Nat} (h : FirstSame l l' k) (hx : l[k]? = l'[k]?) : FirstSame l l' (k + 1) := by
  intro j hj
  by_cases e : j = k
  · rw [e]; exact hx
  · exact h j (by omega)
theorem FirstSame.all {l l' : List PartD} (h : FirstSame l l' l.length) (hl : l.length = l'.length) : l = l' := by
  apply List.ext_getElem?
  intro j
  rcases Nat.lt_or_ge j l.length with hj | hj
  · exact h j hj
  · rw [List.getElem?_eq_none hj, List.getElem?_eq_none (by omega)]

set_option maxHeartbeats 2000000 in
theorem equal_any (va vb : Value) (l l' : List PartD) (w : World) (ha : SlP w va l) (hb : SlP w vb l') :
    Calls Try.prog 79 #[va, vb] w fun e w' => e = .returned (.bool (sameP l l')) ∧ Below w.heap.size w w' := by
  have hl := ha.1
  have hl' := hb.1
  by_cases hlen : l.length = l'.length
  · obtain ⟨_, ha⟩ := ha
    obtain ⟨_, hb⟩ := hb
    rcases ha with ⟨rfl, A, c, rfl⟩ | ⟨g, o, c, rfl, hp, _, hca⟩
    · obtain rfl : l' = [] := List.eq_nil_of_length_eq_zero hlen.symm
      rcases hb with ⟨_, A', c', rfl⟩ | ⟨g', o', c', rfl, hp, _, _⟩
      · go_enter Try.func79, Try.ntmps79
        go_wp2
        refine wp_loop_rounds 1 ?_
        rw [rounds_succ]
        go_wp2
        go_ret
        exact ⟨rfl, Below.refl _ _⟩
      · exact absurd hp (by simp)
    · rcases hb with ⟨rfl, A', c', rfl⟩ | ⟨g', o', c', rfl, _, _, hcb⟩
      · exact absurd hp (by simp at hlen; simp [hlen])
      · have HA := Lib.hid hca
        have HB := Lib.hid hcb
        have HL := Lib.hid hlen
        rw [← hlen]
        clear hca hcb hlen
        go_enter Try.func79, Try.ntmps79
        go_wp2
        go_loopw [13] (fun i wr => ∃ k n : Nat, k ≤ l.length ∧ i = .int .i64 k ∧ wr = w.drewN n ∧ Hid (FirstSame l l' k)) (fun i _ => l.length - (intOf i).toNat)
        case atStart => exact ⟨0, 0, Nat.zero_le _, rfl, rfl, Lib.hid (fun j hj => absurd hj (by omega))⟩
        case round =>
          obtain ⟨k, n, hk, rfl, rfl, hF⟩ := hrel
          by_cases hlt : k < l.length
          · obtain ⟨x, hx⟩ : ∃ x, l[k]? = some x := ⟨_, List.getElem?_eq_getElem hlt⟩
            obtain ⟨y, hy⟩ : ∃ y, l'[k]? = some y := ⟨_, List.getElem?_eq_getElem (by rw [← HL.out]; exact hlt)⟩
            obtain ⟨p0, p1, p2⟩ := SlP.cells HA.out k x hx
            obtain ⟨q0, q1, q2⟩ := SlP.cells HB.out k y hy
            have Hx := Lib.hid hx
            have Hy := Lib.hid hy
            obtain ⟨a1, b1, d1⟩ := x
            obtain ⟨a2, b2, d2⟩ := y
            clear hx hy
            by_cases ea : a1 = a2
            · subst ea
              by_cases eb : b1 = b2
              · subst eb
                by_cases ed : d1 = d2
                · subst ed
                  have F := Lib.hid (hF.out.next (Hx.out.trans Hy.out.symm))
                  go_wp2
                  go_quiet (fail)
                  go_wp2
                  go_roundw
                  case rel => exact ⟨k + 1, _, by omega, by go_num, rfl, F⟩
                  case measure => simp [intOf]; omega
                · have E := Lib.hid (sameP_no (l := l) (l' := l') (fun e => ed (by
                    have h := Hx.out
                    rw [e, Hy.out] at h
                    simp only [Option.some.injEq, PartD.mk.injEq] at h
                    simp_all)))
                  have hq : (d1 == d2) = false := by simpa using ed
                  go_wp2
                  go_quiet (fail)
                  go_wp2
                  go_ret
                  exact ⟨ret_bool E.out.symm, below_drewN (below_drewN (Below.refl _ _) _) _⟩
              · have E := Lib.hid (sameP_no (l := l) (l' := l') (fun e => eb (by
                  have h := Hx.out
                  rw [e, Hy.out] at h
                  simp only [Option.some.injEq, PartD.mk.injEq] at h
                  simp_all)))
                have hq : (b1 == b2) = false := by simpa using eb
                go_wp2
                go_quiet (fail)
                go_wp2
                go_ret
                exact ⟨ret_bool E.out.symm, below_drewN (below_drewN (Below.refl _ _) _) _⟩
            · have E := Lib.hid (sameP_no (l := l) (l' := l') (fun e => ea (by
                have h := Hx.out
                rw [e, Hy.out] at h
                simp only [Option.some.injEq, PartD.mk.injEq] at h
                simp_all)))
              have hq : (a1 == a2) = false := by simpa using ea
              go_wp2
              go_quiet (fail)
              go_wp2
              go_ret
              exact ⟨ret_bool E.out.symm, below_drewN (below_drewN (Below.refl _ _) _) _⟩
          · have E := Lib.hid (sameP_yes (FirstSame.all (by have e : k = l.length := (by omega); rw [← e]; exact hF.out) HL.out))
            go_wp2
            go_ret
            exact ⟨ret_bool E.out.symm, below_drewN (Below.refl _ _) _⟩
  · obtain ⟨A, c, rfl⟩ := ha.at
    obtain ⟨A', c', rfl⟩ := hb.at
    have E := Lib.hid (sameP_len hlen)
    have hne : ((l.length : Int) != (l'.length : Int)) = true := by simp; omega
    clear ha hb
    go_enter Try.func79, Try.ntmps79
    go_wp2
    go_ret
    exact ⟨ret_bool E.out.symm, Below.refl _ _⟩

def sameT (m m' : Int) (l l' : List PartD) : Bool := decide (m = m') && sameP l l'
theorem sameT_eq {m m' : Int} {l l' : List PartD} (h : m = m') : sameT m m' l l' = sameP l l' := by unfold sameT; rw [decide_eq_true h]; rfl
theorem sameT_no {m m' : Int} {l l' : List PartD} (h : m ≠ m') : sameT m m' l l' = false := by unfold sameT; rw [decide_eq_false h]; rfl

set_option maxHeartbeats 1000000 in
theorem implSameTides (m m' : Int) (va vb : Value) (l l' : List PartD) (w : World) (ha : SlP w va l) (hb : SlP w vb l') :
    Calls Try.prog 47 #[.agg #[.int .i64 m, va], .agg #[.int .i64 m', vb]] w fun e w' => e = .returned (.bool (sameT m m' l l')) ∧ Below w.heap.size w w' := by
  have HA := Lib.hid ha
  have HB := Lib.hid hb
  obtain ⟨A, c, rfl⟩ := ha.at
  obtain ⟨A', c', rfl⟩ := hb.at
  have hb0 := Joins.below_alloc2 w (.cells #[.int .i64 m, .slice A l.length c] 25) (.cells #[.int .i64 m', .slice A' l'.length c'] 25)
  have B0 := Lib.hid hb0
  have C := Lib.hid (equal_any _ _ l l' _ (HA.out.below hb0) (HB.out.below hb0))
  clear ha hb hb0
  by_cases hm : m = m'
  · subst hm
    have E := Lib.hid (sameT_eq (l := l) (l' := l') (rfl : m = m))
    go_enter Try.func47, Try.ntmps47
    go_wp2_with fail
    refine C.out.mono ?_
    rintro e w1 ⟨rfl, hb1⟩
    have B1 := Lib.hid (B0.out.trans (hb1.mono B0.out.size))
    clear hb1
    go_wp2
    go_ret
    exact ⟨ret_bool E.out.symm, B1.out⟩
  · have E := Lib.hid (sameT_no (l := l) (l' := l') hm)
    have hq : (m == m') = false := by simpa using hm
    clear hm
    go_enter Try.func47, Try.ntmps47
    go_wp2
    go_ret
    exact ⟨ret_bool E.out.symm, B0.out⟩

set_option maxHeartbeats 2000000 in
theorem specSameTides (m m' : Int) (va vb : Value) (l l' : List PartD) (w : World) (ha : SlP w va l) (hb : SlP w vb l') :
    Calls Try.prog 72 #[.agg #[.int .i64 m, va], .agg #[.int .i64 m', vb]] w fun e w' => e = .returned (.bool (sameT m m' l l')) ∧ Below w.heap.size w w' := by
  have hl := ha.1
  have hl' := hb.1
  by_cases hm : m = m'
  · subst hm
    have E := Lib.hid (sameT_eq (l := l) (l' := l') (rfl : m = m))
    by_cases hlen : l.length = l'.length
    · obtain ⟨_, ha⟩ := ha
      obtain ⟨_, hb⟩ := hb
      rcases ha with ⟨rfl, A, c, rfl⟩ | ⟨g, o, c, rfl, hp, _, hca⟩
      · obtain rfl : l' = [] := List.eq_nil_of_length_eq_zero hlen.symm
        rcases hb with ⟨_, A', c', rfl⟩ | ⟨g', o', c', rfl, hp, _, _⟩
        · go_enter Try.func72, Try.ntmps72
          go_wp2
          refine wp_loop_rounds 1 ?_
          rw [rounds_succ]
          go_wp2
          go_ret
          exact ⟨ret_bool (E.out.trans (sameP_yes rfl)).symm, Joins.below_alloc2 _ _ _⟩
        · exact absurd hp (by simp)
      · rcases hb with ⟨rfl, A', c', rfl⟩ | ⟨g', o', c', rfl, _, _, hcb⟩
        · exact absurd hp (by simp at hlen; simp [hlen])
        · have HA := Lib.hid hca
          have HB := Lib.hid hcb
          have HL := Lib.hid hlen
          rw [← hlen]
          clear hca hcb hlen
          have hb0 := Joins.below_alloc2 w (.cells #[.int .i64 m, .slice (some ⟨g, o, none⟩) l.length c] 25) (.cells #[.int .i64 m, .slice (some ⟨g', o', none⟩) l.length c'] 25)
          have X0 : ((w.alloc (.cells #[.int .i64 m, .slice (some ⟨g, o, none⟩) l.length c] 25)).alloc (.cells #[.int .i64 m, .slice (some ⟨g', o', none⟩) l.length c'] 25)).cell? ⟨w.heap.size + 1, 1, none⟩ = some (.slice (some ⟨g', o', none⟩) l.length c') := by
            rw [World.cell?_alloc_at _ _ _ _ (by simp)]; rfl
          have HX0 := Lib.hid X0
          have B0 := Lib.hid hb0
          clear X0 hb0
          go_enter Try.func72, Try.ntmps72
          go_wp2
          go_loopw [24] (fun i wr => ∃ k : Nat, k ≤ l.length ∧ i = .int .i64 k ∧ Hid (wr.cell? ⟨w.heap.size + 1, 1, none⟩ = some (.slice (some ⟨g', o', none⟩) l.length c')) ∧ Hid (Below w.heap.size w wr) ∧ w.heap.size + 1 < wr.heap.size ∧ Hid (FirstSame l l' k)) (fun i _ => l.length - (intOf i).toNat)
          case atStart => exact ⟨0, Nat.zero_le _, rfl, HX0, B0, by simp, Lib.hid (fun j hj => absurd hj (by omega))⟩
          case round =>
            obtain ⟨k, hk, rfl, hbox, hB, hsz, hF⟩ := hrel
            by_cases hlt : k < l.length
            · obtain ⟨x, hx⟩ : ∃ x, l[k]? = some x := ⟨_, List.getElem?_eq_getElem hlt⟩
              obtain ⟨y, hy⟩ : ∃ y, l'[k]? = some y := ⟨_, List.getElem?_eq_getElem (by rw [← HL.out]; exact hlt)⟩
              obtain ⟨p0, p1, p2⟩ := SlP.cells HA.out k x hx
              obtain ⟨q0, q1, q2⟩ := SlP.cells HB.out k y hy
              have hg : g < w.heap.size := World.block_lt_of_cell? w ⟨g, o + k * 3, none⟩ p0
              have hg' : g' < w.heap.size := World.block_lt_of_cell? w ⟨g', o' + k * 3, none⟩ q0
              have a0 := (hB.out.cell (p := ⟨g, o + k * 3, none⟩) hg).trans p0
              have a1 := (hB.out.cell (p := ⟨g, o + k * 3 + 1, none⟩) hg).trans p1
              have a2 := (hB.out.cell (p := ⟨g, o + k * 3 + 2, none⟩) hg).trans p2
              have b0 := (hB.out.cell (p := ⟨g', o' + k * 3, none⟩) hg').trans q0
              have b1 := (hB.out.cell (p := ⟨g', o' + k * 3 + 1, none⟩) hg').trans q1
              have b2 := (hB.out.cell (p := ⟨g', o' + k * 3 + 2, none⟩) hg').trans q2
              have bx := hbox.out
              have Hx := Lib.hid hx
              have Hy := Lib.hid hy
              obtain ⟨xa, xb, xd⟩ := x
              obtain ⟨ya, yb, yd⟩ := y
              have hgw : g' < wr.heap.size := by omega
              have hgw2 : g < wr.heap.size := by omega
              clear hx hy p0 p1 p2 q0 q1 q2
              by_cases ea : xa = ya
              · subst ea
                by_cases eb : xb = yb
                · subst eb
                  by_cases ed : xd = yd
                  · subst ed
                    have F := Lib.hid (hF.out.next (Hx.out.trans Hy.out.symm))
                    go_wp2
                    go_quiet (fail)
                    go_wp2
                    go_roundw
                    case rel =>
                      refine ⟨k + 1, by omega, by go_num, ?_, ?_, ?_, F⟩
                      · refine Lib.hid ((Below.cell (B := wr.heap.size) (w := wr) ?_ hsz).trans hbox.out)
                        repeat (first | exact Below.refl _ _ | refine below_drewN ?_ _ | refine Below.setCell ?_ (by first | omega | (simp <;> omega)) _ | refine Below.alloc ?_ (by first | omega | (simp <;> omega)) _)
                      · refine Lib.hid ?_
                        repeat (first | exact hB.out | refine below_drewN ?_ _ | refine Below.setCell ?_ (by first | omega | (simp <;> omega)) _ | refine Below.alloc ?_ (by first | omega | (simp <;> omega)) _)
                      · simp; omega
                    case measure => simp [intOf]; omega
                  · have E2 := Lib.hid (E.out.trans (sameP_no (l := l) (l' := l') (fun e => ed (by
                      have h := Hx.out
                      rw [e, Hy.out] at h
                      simp only [Option.some.injEq, PartD.mk.injEq] at h
                      simp_all))))
                    have hq : (xd == yd) = false := by simpa using ed
                    go_wp2
                    go_quiet (fail)
                    go_wp2
                    go_ret
                    refine ⟨ret_bool E2.out.symm, ?_⟩
                    repeat (first | exact hB.out | refine below_drewN ?_ _ | refine Below.setCell ?_ (by first | omega | (simp <;> omega)) _ | refine Below.alloc ?_ (by first | omega | (simp <;> omega)) _)
                · have E2 := Lib.hid (E.out.trans (sameP_no (l := l) (l' := l') (fun e => eb (by
                    have h := Hx.out
                    rw [e, Hy.out] at h
                    simp only [Option.some.injEq, PartD.mk.injEq] at h
                    simp_all))))
                  have hq : (xb == yb) = false := by simpa using eb
                  go_wp2
                  go_quiet (fail)
                  go_wp2
                  go_ret
                  refine ⟨ret_bool E2.out.symm, ?_⟩
                  repeat (first | exact hB.out | refine below_drewN ?_ _ | refine Below.setCell ?_ (by first | omega | (simp <;> omega)) _ | refine Below.alloc ?_ (by first | omega | (simp <;> omega)) _)
              · have E2 := Lib.hid (E.out.trans (sameP_no (l := l) (l' := l') (fun e => ea (by
                  have h := Hx.out
                  rw [e, Hy.out] at h
                  simp only [Option.some.injEq, PartD.mk.injEq] at h
                  simp_all))))
                have hq : (xa == ya) = false := by simpa using ea
                go_wp2
                go_quiet (fail)
                go_wp2
                go_ret
                refine ⟨ret_bool E2.out.symm, ?_⟩
                repeat (first | exact hB.out | refine below_drewN ?_ _ | refine Below.setCell ?_ (by first | omega | (simp <;> omega)) _ | refine Below.alloc ?_ (by first | omega | (simp <;> omega)) _)
            · have E2 := Lib.hid (E.out.trans (sameP_yes (FirstSame.all (by have e : k = l.length := (by omega); rw [← e]; exact hF.out) HL.out)))
              go_wp2
              go_ret
              exact ⟨ret_bool E2.out.symm, hB.out⟩
    · obtain ⟨A, c, rfl⟩ := ha.at
      obtain ⟨A', c', rfl⟩ := hb.at
      have E2 := Lib.hid (E.out.trans (sameP_len hlen))
      have hne : ((l.length : Int) != (l'.length : Int)) = true := by simp; omega
      clear ha hb
      go_enter Try.func72, Try.ntmps72
      go_wp2
      go_ret
      exact ⟨ret_bool E2.out.symm, Joins.below_alloc2 _ _ _⟩
  · obtain ⟨A, c, rfl⟩ := ha.at
    obtain ⟨A', c', rfl⟩ := hb.at
    have E := Lib.hid (sameT_no (l := l) (l' := l') hm)
    have hq : (m != m') = true := by simpa using hm
    clear ha hb hm
    go_enter Try.func72, Try.ntmps72
    go_wp2
    go_ret
    exact ⟨ret_bool E.out.symm, Joins.below_alloc2 _ _ _⟩

end Go.Proofs.Ytbcbbolakjjglaa
