
/- spec.l05Walk: contract, by induction on the points that are left. -/
import Derived.Test.YtcofldhjbidjjaaWalkLib
import Derived.StillTailTactics
namespace Go.Proofs.Ytcofldhjbidjjaa
open Go.RowKit
set_option maxRecDepth 100000

theorem upW_len2 {d : ChartD} (hs : d.segs.length ≤ 10) (to : Int) (f : Nat) (pts rt : List Int) (k : Nat) : (upW d to (f + 1) pts rt k).length ≤ k * 10 ^ f := by
  have h1 := flat_le (10 ^ f) (List.range k) (stepW d to (f + 1) pts rt) (fun i _ => by
    by_cases h : nextI d pts (i : Int) < 0
    · rw [stepW_bad h]; simp
    · rw [stepW_good h]; exact walkF_len hs to f _ _)
  rw [List.length_range] at h1
  exact h1
theorem nextI_seg {d : ChartD} {pts : List Int} {k : Nat} {s : SegmentD} {z : Int} (hs : d.segs[k]? = some s) (hz : pts.getLast?.getD 0 = z) : nextI d pts (k : Int) = if pts.any (· == otherI s z) = true then -1 else otherI s z := by
  have : endP d (k : Int) z = otherI s z := endP_some (by unfold segAt; rw [if_pos (by omega), Int.toNat_natCast]; exact hs)
  unfold nextI
  rw [hz, this]
def wCnt : Nat → Nat
  | 0 => 8
  | 1 => 7
  | 2 => 7
  | 3 => 7
  | 4 => 7
  | 5 => 6
  | 6 => 6
  | 7 => 6
  | 8 => 6
  | 9 => 6
  | 10 => 6
  | 11 => 6
  | 12 => 5
  | 13 => 5
  | 14 => 5
  | 15 => 5
  | 16 => 5
  | 17 => 5
  | 18 => 5
  | 19 => 4
  | 20 => 4
  | 21 => 4
  | 22 => 4
  | 23 => 4
  | 24 => 3
  | 25 => 3
  | 26 => 3
  | 27 => 2
  | 28 => 2
  | 29 => 1
  | 30 => 0
  | _ => 0
def wLst : Nat → Array Bool
  | 0 => #[true, false, true, false, true, false, false, false, true, false, true, false, false, true, true, false, false]
  | 1 => #[true, true, true, false, true, false, false, false, true, false, true, false, false, true, true, false, false]
  | 2 => #[true, false, true, false, true, true, false, false, true, false, true, false, false, true, true, false, false]
  | 3 => #[true, false, true, false, true, false, false, true, true, false, true, false, false, true, true, false, false]
  | 4 => #[true, false, true, false, true, false, false, false, true, false, true, true, false, true, true, false, false]
  | 5 => #[true, true, true, true, true, false, false, false, true, false, true, false, false, true, true, false, false]
  | 6 => #[true, true, true, false, true, true, false, false, true, false, true, false, false, true, true, false, false]
  | 7 => #[true, true, true, false, true, false, false, true, true, false, true, false, false, true, true, false, false]
  | 8 => #[true, true, true, false, true, false, false, false, true, false, true, true, false, true, true, false, false]
  | 9 => #[true, false, true, false, true, true, false, true, true, false, true, false, false, true, true, false, false]
  | 10 => #[true, false, true, false, true, true, false, false, true, false, true, true, false, true, true, false, false]
  | 11 => #[true, false, true, false, true, false, false, true, true, false, true, true, false, true, true, false, false]
  | 12 => #[true, true, true, true, true, true, false, false, true, false, true, false, false, true, true, false, false]
  | 13 => #[true, true, true, true, true, false, false, true, true, false, true, false, false, true, true, false, false]
  | 14 => #[true, true, true, true, true, false, false, false, true, false, true, true, false, true, true, false, false]
  | 15 => #[true, true, true, false, true, true, false, true, true, false, true, false, false, true, true, false, false]
  | 16 => #[true, true, true, false, true, true, false, false, true, false, true, true, false, true, true, false, false]
  | 17 => #[true, true, true, false, true, false, false, true, true, false, true, true, false, true, true, false, false]
  | 18 => #[true, false, true, false, true, true, false, true, true, false, true, true, false, true, true, false, false]
  | 19 => #[true, true, true, true, true, true, true, false, true, false, true, false, false, true, true, false, false]
  | 20 => #[true, true, true, true, true, true, false, true, true, false, true, false, false, true, true, false, false]
  | 21 => #[true, true, true, true, true, true, false, false, true, false, true, true, false, true, true, false, false]
  | 22 => #[true, true, true, true, true, false, false, true, true, false, true, true, false, true, true, false, false]
  | 23 => #[true, true, true, false, true, true, false, true, true, false, true, true, false, true, true, false, false]
  | 24 => #[true, true, true, true, true, true, true, true, true, false, true, false, false, true, true, false, false]
  | 25 => #[true, true, true, true, true, true, true, false, true, false, true, true, false, true, true, false, false]
  | 26 => #[true, true, true, true, true, true, false, true, true, false, true, true, false, true, true, false, false]
  | 27 => #[true, true, true, true, true, true, true, true, true, true, true, false, false, true, true, false, false]
  | 28 => #[true, true, true, true, true, true, true, true, true, false, true, true, false, true, true, false, false]
  | 29 => #[true, true, true, true, true, true, true, true, true, true, true, true, false, true, true, false, false]
  | 30 => #[true, true, true, true, true, true, true, true, true, true, true, true, true, true, true, false, false]
  | _ => #[]
def wLiv (pts rt : List Int) (t : Int) (k : Nat) (x50 : Value) (x52 : Value) (x54 : Value) (x55 : Value) (x56 : Value) (x58 : Value) (x60 : Value) (x61 : Value) : Nat → List (Nat × Value × List Int)
  | 0 => []
  | 1 => [(50, x50, [])]
  | 2 => [(54, x54, [t])]
  | 3 => [(56, x56, [])]
  | 4 => [(60, x60, [(k : Int)])]
  | 5 => [(52, x52, pts)]
  | 6 => [(50, x50, []), (54, x54, [t])]
  | 7 => [(50, x50, []), (56, x56, [])]
  | 8 => [(50, x50, []), (60, x60, [(k : Int)])]
  | 9 => [(54, x54, [t]), (56, x56, [])]
  | 10 => [(54, x54, [t]), (60, x60, [(k : Int)])]
  | 11 => [(56, x56, []), (60, x60, [(k : Int)])]
  | 12 => [(52, x52, pts), (54, x54, [t])]
  | 13 => [(52, x52, pts), (56, x56, [])]
  | 14 => [(52, x52, pts), (60, x60, [(k : Int)])]
  | 15 => [(50, x50, []), (54, x54, [t]), (56, x56, [])]
  | 16 => [(50, x50, []), (54, x54, [t]), (60, x60, [(k : Int)])]
  | 17 => [(50, x50, []), (56, x56, []), (60, x60, [(k : Int)])]
  | 18 => [(54, x54, [t]), (56, x56, []), (60, x60, [(k : Int)])]
  | 19 => [(55, x55, (pts ++ [t]))]
  | 20 => [(52, x52, pts), (54, x54, [t]), (56, x56, [])]
  | 21 => [(52, x52, pts), (54, x54, [t]), (60, x60, [(k : Int)])]
  | 22 => [(52, x52, pts), (56, x56, []), (60, x60, [(k : Int)])]
  | 23 => [(50, x50, []), (54, x54, [t]), (56, x56, []), (60, x60, [(k : Int)])]
  | 24 => [(55, x55, (pts ++ [t])), (56, x56, [])]
  | 25 => [(55, x55, (pts ++ [t])), (60, x60, [(k : Int)])]
  | 26 => [(52, x52, pts), (54, x54, [t]), (56, x56, []), (60, x60, [(k : Int)])]
  | 27 => [(55, x55, (pts ++ [t])), (58, x58, rt)]
  | 28 => [(55, x55, (pts ++ [t])), (56, x56, []), (60, x60, [(k : Int)])]
  | 29 => [(55, x55, (pts ++ [t])), (58, x58, rt), (60, x60, [(k : Int)])]
  | 30 => [(55, x55, (pts ++ [t])), (61, x61, (rt ++ [(k : Int)]))]
  | _ => []
theorem wCnt_zero : ∀ c, c < 31 → wCnt c = 0 → c = 30 := by decide
def WalkAt (d : ChartD) (to : Int) (f : Nat) : Prop :=
  ∀ (pts rt : List Int) (v0 v1 pv rv v : Value) (ll : List (List Int)) (base : Nat) (w0 w : World), RdChart w0 v0 v1 d → Below w0.heap.size w0 w → w0.heap.size ≤ base → base ≤ w.heap.size → LLIn w base w.heap.size v ll → SlInt w pv pts → SlInt w rv rt →
    ApartV v pv → ApartV v rv → GoodP d.points.length pts → d.points.length ≤ pts.length + f → rt.length + f ≤ 10 → f ≤ 8 → ll.length + 10 ^ f ≤ 500000000 →
    Calls Try.prog 71 #[.agg #[v0, v1], pv, rv, .int .i64 to, v] w fun e w' => ∃ v', e = .returned v' ∧ LLIn w' base w'.heap.size v' (ll ++ walkF d to f pts rt) ∧ KeepX (fun i => v.ownBlock = some i) w w' ∧ ∀ g, v'.ownBlock = some g → v.ownBlock = some g ∨ w.heap.size ≤ g

set_option maxHeartbeats 32000000 in
theorem walkStep (d : ChartD) (hd : chartB d = true) (to : Int) (f0 : Nat) (ih0 : ∀ f, f0 = f + 1 → WalkAt d to f) : WalkAt d to f0 := by
  intro pts rt v0 v1 pv rv v ll base w0 w hR hB hb0 hbw hLL hp hr hap har hG hf hrl hf8 hlb
  have HIH := Lib.hid ih0
  have HR := Lib.hid hR
  obtain ⟨h0, h1⟩ := hR
  have H1 := Lib.hid h1
  obtain ⟨A0, c0, rfl⟩ := h0.at
  obtain ⟨A1, c1, rfl⟩ := h1.at
  have hsg := (chartB_true hd).2.1
  have hpl := hG.len
  have hpn := (chartB_true hd).1
  have hpl8 : pts.length ≤ 8 := by omega
  have hrl10 : rt.length ≤ 10 := by omega
  have HD := Lib.hid hd
  have HG := Lib.hid hG
  have HF := Lib.hid hf
  have HRL := Lib.hid hrl
  have HLB := Lib.hid hlb
  have hll5 : ll.length ≤ 500000000 := Nat.le_trans (Nat.le_add_right _ _) hlb
  obtain ⟨P, cp, rfl⟩ := hp.at
  obtain ⟨R, cr, rfl⟩ := hr.at
  obtain ⟨V, cv, rfl, hvc⟩ := hLL.form
  have HLL := Lib.hid hLL
  have HP := Lib.hid hp
  have HRR := Lib.hid hr
  have HAP := Lib.hid hap
  have HAR := Lib.hid har
  obtain ⟨w1, hw1⟩ : ∃ w1, w1 = w.alloc (.cells #[.slice A0 d.points.length c0, .slice A1 d.segs.length c1] 26) := ⟨_, rfl⟩
  have HS1 := Lib.hid (show w1.heap.size = w.heap.size + 1 by rw [hw1]; simp)
  have BX := Lib.hid (show Blk w1 w.heap.size #[.slice A0 d.points.length c0, .slice A1 d.segs.length c1] 26 by rw [hw1]; exact Blk.new w _ _)
  have BW := Lib.hid (show Below w.heap.size w w1 by rw [hw1]; exact Joins.below_alloc1 _ _)
  have HB0 := Lib.hid hB
  have HVR := Lib.hid (show ∀ g, (Value.slice V ll.length cv).ownBlock = some g → base ≤ g ∧ g < w.heap.size by obtain ⟨_, _, _, _, _, hr, _⟩ := hLL; exact hr)
  have hw0s := hB.size
  clear h0 h1 hB hd hf hG hrl hlb hap har hLL
  obtain ⟨k0, hk0⟩ : ∃ k0, pts.length = k0 + 1 := ⟨pts.length - 1, by have := HG.out.1; have : 0 < pts.length := List.length_pos_iff.2 this; omega⟩
  obtain ⟨z, hz⟩ : ∃ z, pts[k0]? = some z := ⟨_, List.getElem?_eq_getElem (by omega)⟩
  have hzl : pts.getLast? = some z := by rw [List.getLast?_eq_getElem?, show pts.length - 1 = k0 by omega]; exact hz
  have HZ := Lib.hid (show pts.getLast?.getD 0 = z by rw [hzl]; rfl)
  have hsp := SlOf.below hp BW.out
  rcases hsp.2 with ⟨he, _⟩ | ⟨g, oo, cc, e, hpos, hcap, hc⟩
  · rw [he] at hk0; simp at hk0
  injection e with e1 _ e3
  subst e1 e3
  have y0 := SlInt.cells hc k0 z hz
  have hkl : k0 < pts.length := by omega
  have hsub : IntKind.i64.wrap ((pts.length : Int) - 1) = (k0 : Int) := by rw [IntKind.wrap_i64]; omega
  have HK0 := Lib.hid hk0
  have HW1 := Lib.hid hw1
  have LL1 := Lib.hid (HLL.out.keep (KeepX.below BW.out (ex := fun _ => False)) (fun _ _ _ e => e))
  clear hz hzl hc hsp hk0 hw1 hp hr
  by_cases hzt : z = to
  · have E := Lib.hid (walkF_here (d := d) (f := f0) (rt := rt) (show pts.getLast?.getD 0 = to by rw [HZ.out]; exact hzt))
    have hzb : (z == to) = true := by simpa using hzt
    clear hzt
    have L0 := Lib.hid (Liv.build (Liv.nil w1) 0 [] (by simp))
    clear ih0
    go_enter Try.func71, Try.ntmps71
    go_wp2_with (first
      | rw [← HW1.out]
      | (at_builtin; refine wpList_plain rfl fun K hK => wp_of_step (ops := #[]) rfl (step_liv L0.out (L' := []) (τ := 0) (v := .slice (some ⟨w1.heap.size, 0, none⟩) 0 0) (u := .slice R rt.length cr) (l := []) (m := rt) 1 rfl (.tmp 25) (.tmp 26) rfl rfl rfl List.mem_cons_self (SlOf.below HRR.out (BW.out.trans ((Joins.below_alloc1 w1 _).mono BW.out.size))) (by simp; omega) (fun q hq => by cases hq) ?_); intro v5 x5 hl5; refine hK _ _ ?_; have hr5 := hl5.own _ (List.mem_cons_self); have LU := Lib.hid (LLIn.one (base := w1.heap.size) (top := x5.heap.size + 1) hr5 hl5.low.size (own_range hr5) (Nat.lt_succ_self _)); have LB := Lib.hid hl5.low; obtain ⟨V5, c5, e5⟩ := own_form hr5; simp only at e5; subst e5; clear hr5 hl5)
      | (at_builtin; refine wpList_plain rfl fun K hK => wp_of_step (ops := #[]) rfl (step_append_LL _ rfl (.tmp 24) (.tmp 28) rfl ((LL1.out.keep (KeepX.below LB.out (ex := fun _ => False)) (fun _ _ _ e => e)).keep (KeepX.alloc x5 _ (ex := fun _ => False)) (fun _ _ _ e => e)) (by rw [World.size_alloc]; exact LU.out) BW.out.size (Nat.le_trans hbw BW.out.size) (by rw [World.size_alloc]; exact Nat.le_trans BW.out.size (Nat.le_trans LB.out.size (Nat.le_succ _))) rfl rfl (by simp; omega) (by rw [World.size_alloc]; exact Nat.le_trans hbw (Nat.le_trans BW.out.size (Nat.le_trans LB.out.size (Nat.le_succ _)))) ?_); intro A9 c9 x9 hc9 hll9 hk9 hloc9; refine hK _ _ ?_; have LF := Lib.hid hll9; have KF := Lib.hid hk9; have HLO := Lib.hid hloc9; clear hll9 hk9 hloc9))
    refine bodyPost_ret (v := .slice A9 (ll.length + 1) c9) (by simp [results, Try.results71, go_sem, *]) rfl ⟨_, rfl, ?_, ?_, ?_⟩
    · have := LF.out
      rw [E.out]
      simpa using this
    · exact ((KeepX.below BW.out).trans (KeepX.below LB.out)).trans ((KeepX.alloc x5 _).trans KF.out)
    · intro j hj
      rcases HLO.out j (by cases A9 with
        | none => cases hj
        | some _ => exact hj) with e | e
      · exact .inl e
      · rw [World.size_alloc] at e
        exact .inr (Nat.le_trans BW.out.size (Nat.le_trans LB.out.size (Nat.le_trans (Nat.le_succ _) e)))
  · have E := Lib.hid (walkF_up (d := d) (f := f0) (rt := rt) (show ¬ pts.getLast?.getD 0 = to by rw [HZ.out]; exact hzt))
    have hzb : (z == to) = false := by simpa using hzt
    clear hzt ih0
    have z0 := BX.out.cell 0
    have z1 := BX.out.cell 1
    simp at z0 z1
    have hl1 := H1.out.1
    go_enter Try.func71, Try.ntmps71
    go_wp2_with (rw [← HW1.out])
    clear z0 z1 HW1 y0
    go_loopw [4, 33] (fun q i wr => ∃ k : Nat, k ≤ d.segs.length ∧ i = .int .i64 k ∧ Hid (LLIn wr base wr.heap.size q (ll ++ upW d to f0 pts rt k)) ∧ Hid (KeepX (fun i => (Value.slice V ll.length cv).ownBlock = some i) w1 wr) ∧ Hid (∀ g, q.ownBlock = some g → (Value.slice V ll.length cv).ownBlock = some g ∨ w1.heap.size ≤ g)) (fun _ i _ => d.segs.length - (intOf i).toNat)
    case atStart => exact ⟨0, Nat.zero_le _, rfl, by rw [upW_zero, List.append_nil]; exact Lib.hid (LL1.out.wide BW.out.size), Lib.hid (KeepX.refl _ _), Lib.hid (fun g e => .inl e)⟩
    case round =>
      obtain ⟨k, hk, rfl, hL, hK, hloc⟩ := hrel
      have HUP := Lib.hid (upW_next d to f0 pts rt k)
      have HAL := Lib.hid (show (ll ++ upW d to f0 pts rt k).length ≤ 500000000 by
        have h1 := upW_len hsg to f0 pts rt (show k ≤ 10 by omega)
        have h2 := HLB.out
        rw [List.length_append]
        omega)
      have HAL2 := Lib.hid (show k < d.segs.length → ∀ f, f0 = f + 1 → (ll ++ upW d to f0 pts rt k).length + 10 ^ f ≤ 500000000 from fun hlt f e => by
        subst e
        have h1 := upW_len2 hsg to f pts rt k
        have h2 := HLB.out
        have h3 : (k + 1) * 10 ^ f ≤ 10 * 10 ^ f := Nat.mul_le_mul_right _ (by omega)
        rw [Nat.add_mul, Nat.one_mul] at h3
        rw [Nat.pow_succ, Nat.mul_comm (10 ^ f) 10] at h2
        rw [List.length_append]
        omega)
      have HBL := Lib.hid (hK.out.toBelow (HB0.out.trans (BW.out.mono hw0s)) (Nat.le_refl _) (fun i hi e => by have := HVR.out i e; omega))
      have BXr := Lib.hid (show Blk wr w.heap.size #[.slice A0 d.points.length c0, .slice A1 d.segs.length c1] 26 from (hK.out.block _ BX.out.lt (fun e => by have := HVR.out _ e; omega)).trans BX.out)
      have hwz : w1.heap.size ≤ wr.heap.size := hK.out.size
      by_cases hlt : k < d.segs.length
      rotate_left
      · obtain rfl : k = d.segs.length := by omega
        have HLF := Lib.hid (show LLIn wr base wr.heap.size _ (ll ++ walkF d to f0 pts rt) by rw [E.out]; exact hL.out)
        have KF := Lib.hid ((KeepX.below BW.out).trans hK.out)
        obtain ⟨Q, cq, hQ, _⟩ := hL.out.form
        subst hQ
        go_wp2
        refine bodyPost_ret (v := .slice Q (ll ++ upW d to f0 pts rt d.segs.length).length cq) (by simp [results, Try.results71, go_sem, *]) rfl ⟨_, rfl, HLF.out, KF.out, fun j hj => ?_⟩
        rcases hloc.out j hj with e | e
        · exact .inl e
        · exact .inr (Nat.le_trans BW.out.size e)
      · obtain ⟨acc, hacc⟩ : ∃ acc, ll ++ upW d to f0 pts rt k = acc := ⟨_, rfl⟩
        have HUA := Lib.hid (show ll ++ upW d to f0 pts rt (k + 1) = acc ++ stepW d to f0 pts rt k by rw [HUP.out, ← List.append_assoc, hacc])
        rw [hacc] at hL HAL HAL2
        clear hacc HUP
        obtain ⟨Q, cq, hQ, hqc⟩ := hL.out.form
        subst hQ
        obtain ⟨s, hx⟩ : ∃ s, d.segs[k]? = some s := ⟨_, List.getElem?_eq_getElem hlt⟩
        rcases H1.out.2 with ⟨he, _⟩ | ⟨g', o', c', e', hpos', hcap', hc'⟩
        · rw [he] at hlt; simp at hlt
        · injection e' with hA' _ hcp'
          subst hA' hcp'
          obtain ⟨p0, p1, p2, p3, p4⟩ := SlSegment.cells hc' k s hx
          have y0 := cell_onV p0 HBL.out
          have y1 := cell_onV p1 HBL.out
          have y2 := cell_onV p2 HBL.out
          have y3 := cell_onV p3 HBL.out
          have y4 := cell_onV p4 HBL.out
          have HN := Lib.hid (nextI_seg (pts := pts) hx HZ.out)
          have hb2 := Lib.hid (Joins.below_alloc1 wr (.cells #[.int .i64 s.a, .int .i64 s.b, .int .i64 s.depth, .int .i64 s.minutes, .bool s.meet] 74))
          clear p0 p1 p2 p3 p4 hx hc'
          obtain ⟨t, ht⟩ : ∃ t, otherI s z = t := ⟨_, rfl⟩
          rw [ht] at HN
          have HT := Lib.hid ht
          clear ht
          go_wp2_with fail
          refine (specOther s z _).mono ?_
          rw [HT.out]
          rintro e w3 ⟨rfl, hb3⟩
          have HB3 := Lib.hid (hb2.out.trans (hb3.mono hb2.out.size))
          have KA := Lib.hid (hK.out.trans (KeepX.below HB3.out))
          have LA := Lib.hid ((hL.out.keep (KeepX.below HB3.out (ex := fun _ => False)) (fun _ _ _ e => e)).wide HB3.out.size)
          have BX3 := Lib.hid (BXr.out.below HB3.out)
          have HBL3 := Lib.hid (HBL.out.trans (HB3.out.mono HBL.out.size))
          have HP3 := Lib.hid (SlOf.below (SlOf.keepX HP.out ((KeepX.below BW.out).trans hK.out) (fun j hj e => HAP.out j e hj)) HB3.out)
          have HR3 := Lib.hid (SlOf.below (SlOf.keepX HRR.out ((KeepX.below BW.out).trans hK.out) (fun j hj e => HAR.out j e hj)) HB3.out)
          clear hb3 hb2 y0 y1 y2 y3 y4
          by_cases hneg : t < 0
          · have EU := Lib.hid (show ll ++ upW d to f0 pts rt (k + 1) = acc by rw [HUA.out, stepW_bad (by rw [HN.out]; split <;> omega), List.append_nil])
            have hnb : decide (0 ≤ t) = false := decide_eq_false (by omega)
            go_wp2
            go_roundw
            case rel => exact ⟨k + 1, by omega, by go_num, by rw [EU.out]; exact LA, KA, hloc⟩
            case measure => simp [intOf]; omega
          · have hnb : 0 ≤ t := by omega
            obtain ⟨bh, hbh⟩ : ∃ bh, pts.any (· == t) = bh := ⟨_, rfl⟩
            have HBH := Lib.hid hbh
            clear hbh
            go_wp2_with fail
            refine (specHas _ pts t _ HP3.out).mono ?_
            rw [HBH.out]
            rintro e w4 ⟨rfl, rfl⟩
            cases bh with
            | true =>
              have EU := Lib.hid (show ll ++ upW d to f0 pts rt (k + 1) = acc by rw [HUA.out, stepW_bad (by rw [HN.out, HBH.out]; simp), List.append_nil])
              go_wp2
              go_roundw
              case rel => exact ⟨k + 1, by omega, by go_num, by rw [EU.out]; exact LA, KA, hloc⟩
              case measure => simp [intOf]; omega
            | false =>
              have HNT := Lib.hid (show nextI d pts (k : Int) = t by rw [HN.out, HBH.out]; rfl)
              have HG2 := Lib.hid (show GoodP d.points.length (pts ++ [t]) by rw [← HNT.out]; exact HG.out.next HD.out (by rw [HNT.out]; omega))
              obtain ⟨f, rfl⟩ : ∃ f, f0 = f + 1 := ⟨f0 - 1, by have h1 := HG2.out.len; have h2 := HF.out; simp at h1; omega⟩
              have ih := HIH.out f rfl
              have HF2 := Lib.hid (show d.points.length ≤ (pts ++ [t]).length + f by have := HF.out; simp; omega)
              have EU := Lib.hid (show ll ++ upW d to (f + 1) pts rt (k + 1) = acc ++ walkF d to f (pts ++ [t]) (rt ++ [(k : Int)]) by rw [HUA.out, stepW_good (by rw [HNT.out]; omega), HNT.out])
              have HA3 := Lib.hid (HAL2.out hlt f rfl)
              clear hL HUA HIH HAL2 hK BXr HB3
              go_wp2
              refine wp_region_held_drew (S := (fun w' => w'.cell? ⟨w.heap.size, 0, none⟩ = some (.slice A0 d.points.length c0) ∧ w'.cell? ⟨w.heap.size, 1, none⟩ = some (.slice (some ⟨g', o', none⟩) d.segs.length c1))) (by kernel_rfl) ?_ (fun hHeld => ?_)
              · exact ⟨BX3.out.cell 0, BX3.out.cell 1⟩
              have LD := Lib.hid (LA.out.keep (KeepX.drew _ (ex := fun _ => False)) (fun _ _ _ e => e))
              have KD := Lib.hid (KA.out.trans (KeepX.drew w3))
              have HBLD := Lib.hid HBL3.out.drew
              have HPD : Hid (SlInt w3.drew _ pts) := Lib.hid HP3.out
              have HRD : Hid (SlInt w3.drew _ rt) := Lib.hid HR3.out
              have hsd : w3.heap.size = w3.drew.heap.size := rfl
              rw [hsd] at LD
              clear hsd
              generalize w3.drew = wd at LD KD HBLD HPD HRD hHeld ⊢
              refine wpAnyH_take (i := 0) (v := ?_) (by simp only [List.getElem?_toArray, List.getElem?_cons_zero]; rfl) (by kernel_rfl) (by kernel_rfl) (by kernel_rfl) (by exact fun _ _ _ h => h) (Or.inl ⟨by rfl, ?_⟩) (by assumption) ?_; rotate_left; focus (intro w hSw; (try dsimp only at hSw); first | (go_simp; done) | (go_simp; with_reducible rfl))
              try go_frame
              refine wpAnyH_take (i := 2) (v := ?_) (by simp only [List.getElem?_toArray, List.getElem?_cons_succ, List.getElem?_cons_zero]; rfl) (by kernel_rfl) (by kernel_rfl) (by kernel_rfl) (by exact fun _ _ _ h => h) (Or.inl ⟨by rfl, ?_⟩) (by assumption) ?_; rotate_left; focus (intro w hSw; (try dsimp only at hSw); first | (go_simp; done) | (go_simp; with_reducible rfl))
              try go_frame
              refine wpAnyH_take (i := 4) (v := ?_) (by simp only [List.getElem?_toArray, List.getElem?_cons_succ, List.getElem?_cons_zero]; rfl) (by kernel_rfl) (by kernel_rfl) (by kernel_rfl) (by exact fun _ _ _ h => h) (Or.inl ⟨by rfl, ?_⟩) (by assumption) ?_; rotate_left; focus (intro w hSw; (try dsimp only at hSw); first | (go_simp; done) | (go_simp; with_reducible rfl))
              try go_frame
              refine wpAnyH_take (i := 8) (v := ?_) (by simp only [List.getElem?_toArray, List.getElem?_cons_succ, List.getElem?_cons_zero]; rfl) (by kernel_rfl) (by kernel_rfl) (by kernel_rfl) (by exact fun _ _ _ h => h) (Or.inl ⟨by rfl, ?_⟩) (by assumption) ?_; rotate_left; focus (intro w hSw; (try dsimp only at hSw); first | (go_simp; done) | (go_simp; with_reducible rfl))
              try go_frame
              refine wpAnyH_take (i := 10) (v := ?_) (by simp only [List.getElem?_toArray, List.getElem?_cons_succ, List.getElem?_cons_zero]; rfl) (by kernel_rfl) (by kernel_rfl) (by kernel_rfl) (by exact fun _ _ _ h => h) (Or.inl ⟨by rfl, ?_⟩) (by assumption) ?_; rotate_left; focus (intro w hSw; (try dsimp only at hSw); first | (go_simp; done) | (go_simp; with_reducible rfl))
              try go_frame
              refine wpAnyH_take (i := 13) (v := ?_) (by simp only [List.getElem?_toArray, List.getElem?_cons_succ, List.getElem?_cons_zero]; rfl) (by kernel_rfl) (by kernel_rfl) (by kernel_rfl) (by exact fun _ _ _ h => h) (Or.inl ⟨by rfl, ?_⟩) (by assumption) ?_; rotate_left; focus (intro w hSw; (try dsimp only at hSw); first | (go_simp; done) | (go_simp; with_reducible rfl))
              try go_frame
              refine wpAnyH_take (i := 14) (v := ?_) (by simp only [List.getElem?_toArray, List.getElem?_cons_succ, List.getElem?_cons_zero]; rfl) (by kernel_rfl) (by kernel_rfl) (by kernel_rfl) (by exact fun _ _ _ h => h) (Or.inl ⟨by rfl, ?_⟩) (by assumption) ?_; rotate_left; focus (intro w hSw; (try dsimp only at hSw); first | (go_simp; done) | (go_simp; with_reducible rfl))
              try go_frame
              have SOF : ∀ x : World, Below wd.heap.size wd x → (fun w' => w'.cell? ⟨w.heap.size, 0, none⟩ = some (.slice A0 d.points.length c0) ∧ w'.cell? ⟨w.heap.size, 1, none⟩ = some (.slice (some ⟨g', o', none⟩) d.segs.length c1)) x := fun x hb => ⟨cell_onV hHeld.1 hb, cell_onV hHeld.2 hb⟩
              refine wpAnyH_inv (fun n listed a x => ∃ (c : Nat) (x50 x52 x54 x55 x56 x58 x60 x61 : Value), a = ({ tmps := #[Value.agg #[Value.slice A0 d.points.length c0, Value.slice (some ⟨g', o', none⟩) d.segs.length c1], Value.slice (some ⟨g, oo, none⟩) pts.length cp, Value.slice R rt.length cr, Value.int .i64 to, Value.slice Q acc.length cq, Value.pointer (some ⟨w.heap.size, 0, none⟩), undef, undef, undef, undef, Value.slice none 0 0, Value.int .i64 z, Value.int .i64 (k : Int), Value.pointer (some ⟨wr.heap.size, 0, none⟩), Value.int .i64 t, Value.slice (some ⟨g, oo, none⟩) pts.length cp, Value.slice (some ⟨g, oo, none⟩) pts.length cp, Value.int .i64 (pts.length : Int), Value.int .i64 (k0 : Int), Value.pointer (some ⟨g, oo + k0, none⟩), Value.int .i64 z, Value.int .i64 z, Value.int .i64 to, Value.bool false, undef, undef, undef, undef, undef, undef, Value.pointer (some ⟨w.heap.size, 1, none⟩), Value.slice (some ⟨g', o', none⟩) d.segs.length c1, Value.int .i64 (d.segs.length : Int), Value.int .i64 (k : Int), Value.bool true, Value.int .i64 (k : Int), Value.pointer (some ⟨g', o' + k * 5, none⟩), Value.agg #[Value.int .i64 s.a, Value.int .i64 s.b, Value.int .i64 s.depth, Value.int .i64 s.minutes, Value.bool s.meet], Value.agg #[Value.int .i64 s.a, Value.int .i64 s.b, Value.int .i64 s.depth, Value.int .i64 s.minutes, Value.bool s.meet], Value.int .i64 z, Value.int .i64 t, Value.int .i64 t, Value.bool true, Value.bool true, Value.slice (some ⟨g, oo, none⟩) pts.length cp, Value.int .i64 t, Value.bool false, Value.bool true, Value.bool true, Value.agg #[Value.slice A0 d.points.length c0, Value.slice (some ⟨g', o', none⟩) d.segs.length c1], x50, Value.slice (some ⟨g, oo, none⟩) pts.length cp, x52, Value.int .i64 t, x54, x55, x56, Value.slice R rt.length cr, x58, Value.int .i64 (k : Int), x60, x61, Value.int .i64 to, Value.slice Q acc.length cq, u64, u65, undef], defers := [] } : Act) ∧ c < 31 ∧ n = wCnt c ∧ listed = wLst c ∧ Liv wd x (wLiv pts rt t k x50 x52 x54 x55 x56 x58 x60 x61 c)) 2 ?base ?step 8 _ _ _ ⟨0, u50, u52, u54, u55, u56, u58, u60, u61, rfl, by decide, rfl, by rfl, Liv.nil wd⟩
              case base =>
                rintro listed a x ⟨c, x50, x52, x54, x55, x56, x58, x60, x61, rfl, hc, hn, rfl, hL⟩
                obtain rfl := wCnt_zero c hc hn.symm
                clear hc hn SOF
                have o55 := hL.own (55, x55, pts ++ [t]) List.mem_cons_self
                have o61 := hL.own (61, x61, rt ++ [(k : Int)]) (List.mem_cons_of_mem _ List.mem_cons_self)
                have hQr := LD.out.range
                have AP := Lib.hid (show ApartV (.slice Q acc.length cq) x55 from fun j hj hj' => by have := hQr j hj; have := own_range o55 j hj'; omega)
                have AR := Lib.hid (show ApartV (.slice Q acc.length cq) x61 from fun j hj hj' => by have := hQr j hj; have := own_range o61 j hj'; omega)
                have HX := Lib.hid hL.low
                have LX := Lib.hid ((LD.out.keep (KeepX.below HX.out (ex := fun _ => False)) (fun _ _ _ e => e)).wide HX.out.size)
                have KX := Lib.hid (KD.out.trans (KeepX.below HX.out))
                have hQB : ¬ (Value.slice Q acc.length cq).ownBlock = some w.heap.size := fun e => by
                  rcases hloc.out _ e with e | e
                  · have := HVR.out _ e; omega
                  · have := HS1.out; omega
                have hxs := HX.out.size
                have hkds := KD.out.size
                have HC0 := Lib.hid (cell_onV hHeld.1 HX.out)
                have HC1 := Lib.hid (cell_onV hHeld.2 HX.out)
                have S55 := Lib.hid (own_sl intLen o55 (by simp; omega))
                have S61 := Lib.hid (own_sl intLen o61 (by simp; omega))
                obtain ⟨P5, c5, e5⟩ := own_form o55
                simp only at e5
                obtain ⟨n5, hn5⟩ : ∃ n, (pts ++ [t]).length = n := ⟨_, rfl⟩
                rw [hn5] at e5
                clear hn5
                subst e5
                obtain ⟨R6, c6, e6⟩ := own_form o61
                simp only at e6
                obtain ⟨n6, hn6⟩ : ∃ n, (rt ++ [(k : Int)]).length = n := ⟨_, rfl⟩
                rw [hn6] at e6
                clear hn6
                subst e6
                clear hL o55 o61 hHeld
                refine wpAnyH_ready (rs := [15]) (by kernel_rfl) (by simp) ?_
                refine AllReadyH.cons rfl (fun K hK => ?_) AllReadyH.nil
                rw [if_pos (by rfl)]
                go_simp
                go_at_call 71
                refine (ih (pts ++ [t]) (rt ++ [(k : Int)]) _ _ _ _ _ acc base w0 _ HR.out (HBLD.out.trans (HX.out.mono HBLD.out.size)) hb0 (Nat.le_trans hbw (Nat.le_trans BW.out.size (Nat.le_trans hkds hxs))) LX.out S55.out S61.out AP.out AR.out HG2.out HF2.out (by have := HRL.out; simp; omega) (by omega) HA3.out).mono ?_
                rintro e x10 ⟨v', rfl, hll, hk', hlo'⟩
                have HLL2 := Lib.hid hll
                have HLO := Lib.hid hlo'
                have KY := Lib.hid (KX.out.join hk' (fun _ _ e => e) (fun i hi e => by
                  rcases hloc.out i e with e | e
                  · exact e
                  · omega))
                have HD0 := Lib.hid (hk'.cell HC0.out hQB)
                have HD1 := Lib.hid (hk'.cell HC1.out hQB)
                obtain ⟨Q9, c9, hv9, _⟩ := hll.form
                subst hv9
                clear hll hk' hlo'
                go_simp
                refine hK.out _ _ ?_ (fun hHeld => ?_)
                · exact ⟨HD0.out, HD1.out⟩
                clear hK K
                try go_frame
                refine wpAnyH_take (i := 16) (v := ?_) (by simp only [List.getElem?_toArray, List.getElem?_cons_succ, List.getElem?_cons_zero]; rfl) (by kernel_rfl) (by kernel_rfl) (by kernel_rfl) (by exact fun _ _ _ h => h) (Or.inl ⟨by rfl, ?_⟩) (by assumption) ?_; rotate_left; focus (intro w hSw; (try dsimp only at hSw); first | (go_simp; done) | (go_simp; with_reducible rfl))
                try go_frame
                refine wpAnyH_done (by kernel_rfl) ?_ _
                clear hHeld
                go_wp2
                go_roundw
                case rel => exact ⟨k + 1, by omega, by go_num, by rw [EU.out, ← List.length_append]; exact HLL2, KY, Lib.hid (fun j hj => by
                  rcases HLO.out j (by cases Q9 with
                    | none => cases hj
                    | some _ => exact hj) with e | e
                  · exact hloc.out j e
                  · exact .inr (Nat.le_trans hkds (Nat.le_trans hxs e)))⟩
                case measure => simp [intOf]; omega
              case step =>
                rintro n listed a x ⟨c, x50, x52, x54, x55, x56, x58, x60, x61, rfl, hc, hn, rfl, hL⟩
                have hcc : c = 0 ∨ c = 1 ∨ c = 2 ∨ c = 3 ∨ c = 4 ∨ c = 5 ∨ c = 6 ∨ c = 7 ∨ c = 8 ∨ c = 9 ∨ c = 10 ∨ c = 11 ∨ c = 12 ∨ c = 13 ∨ c = 14 ∨ c = 15 ∨ c = 16 ∨ c = 17 ∨ c = 18 ∨ c = 19 ∨ c = 20 ∨ c = 21 ∨ c = 22 ∨ c = 23 ∨ c = 24 ∨ c = 25 ∨ c = 26 ∨ c = 27 ∨ c = 28 ∨ c = 29 ∨ c = 30 := by omega
                clear hc
                rcases hcc with rfl | rfl | rfl | rfl | rfl | rfl | rfl | rfl | rfl | rfl | rfl | rfl | rfl | rfl | rfl | rfl | rfl | rfl | rfl | rfl | rfl | rfl | rfl | rfl | rfl | rfl | rfl | rfl | rfl | rfl | rfl
                · refine ⟨[1, 5, 7, 11], by kernel_rfl, by simp, ?_⟩
                  intro i hi
                  have hi : i = 1 ∨ i = 5 ∨ i = 7 ∨ i = 11 := by simpa using hi
                  rcases hi with rfl | rfl | rfl | rfl
                  · refine wpOp_step rfl (fun K hK => ?_)
                    have h' : Liv wd _ (wLiv pts rt t k (.slice (some ⟨x.heap.size, 0, none⟩) 0 0) x52 x54 x55 x56 x58 x60 x61 1) := (hL.build 50 [] (by simp)).sub (L' := wLiv pts rt t k (.slice (some ⟨x.heap.size, 0, none⟩) 0 0) x52 x54 x55 x56 x58 x60 x61 1) (by
                      intro q hq
                      rcases mem1 (show q ∈ [(50, .slice (some ⟨x.heap.size, 0, none⟩) 0 0, [])] from hq) with rfl
                      · exact (List.mem_cons_self))
                    refine step_build0 rfl rfl (hK _ _ ⟨SOF _ (h').low, 1, _, x52, x54, x55, x56, x58, x60, x61, rfl, by decide, Nat.succ.inj hn, by rfl, h'⟩)
                  · refine wpOp_step rfl (fun K hK => ?_)
                    have h' : Liv wd _ (wLiv pts rt t k x50 x52 (.slice (some ⟨x.heap.size, 0, none⟩) 1 1) x55 x56 x58 x60 x61 2) := (hL.build 54 [t] (by simp)).sub (L' := wLiv pts rt t k x50 x52 (.slice (some ⟨x.heap.size, 0, none⟩) 1 1) x55 x56 x58 x60 x61 2) (by
                      intro q hq
                      rcases mem1 (show q ∈ [(54, .slice (some ⟨x.heap.size, 0, none⟩) 1 1, [t])] from hq) with rfl
                      · exact (List.mem_cons_self))
                    refine step_build1 rfl (.tmp 53) _ rfl rfl (hK _ _ ⟨SOF _ (h').low, 2, x50, x52, _, x55, x56, x58, x60, x61, rfl, by decide, Nat.succ.inj hn, by rfl, h'⟩)
                  · refine wpOp_step rfl (fun K hK => ?_)
                    have h' : Liv wd _ (wLiv pts rt t k x50 x52 x54 x55 (.slice (some ⟨x.heap.size, 0, none⟩) 0 0) x58 x60 x61 3) := (hL.build 56 [] (by simp)).sub (L' := wLiv pts rt t k x50 x52 x54 x55 (.slice (some ⟨x.heap.size, 0, none⟩) 0 0) x58 x60 x61 3) (by
                      intro q hq
                      rcases mem1 (show q ∈ [(56, .slice (some ⟨x.heap.size, 0, none⟩) 0 0, [])] from hq) with rfl
                      · exact (List.mem_cons_self))
                    refine step_build0 rfl rfl (hK _ _ ⟨SOF _ (h').low, 3, x50, x52, x54, x55, _, x58, x60, x61, rfl, by decide, Nat.succ.inj hn, by rfl, h'⟩)
                  · refine wpOp_step rfl (fun K hK => ?_)
                    have h' : Liv wd _ (wLiv pts rt t k x50 x52 x54 x55 x56 x58 (.slice (some ⟨x.heap.size, 0, none⟩) 1 1) x61 4) := (hL.build 60 [(k : Int)] (by simp)).sub (L' := wLiv pts rt t k x50 x52 x54 x55 x56 x58 (.slice (some ⟨x.heap.size, 0, none⟩) 1 1) x61 4) (by
                      intro q hq
                      rcases mem1 (show q ∈ [(60, .slice (some ⟨x.heap.size, 0, none⟩) 1 1, [(k : Int)])] from hq) with rfl
                      · exact (List.mem_cons_self))
                    refine step_build1 rfl (.tmp 59) _ rfl rfl (hK _ _ ⟨SOF _ (h').low, 4, x50, x52, x54, x55, x56, x58, _, x61, rfl, by decide, Nat.succ.inj hn, by rfl, h'⟩)
                · refine ⟨[3, 5, 7, 11], by kernel_rfl, by simp, ?_⟩
                  intro i hi
                  have hi : i = 3 ∨ i = 5 ∨ i = 7 ∨ i = 11 := by simpa using hi
                  rcases hi with rfl | rfl | rfl | rfl
                  · refine wpOp_step rfl (fun K hK => ?_)
                    refine step_liv (τ := 50) (v := x50) (u := Value.slice (some ⟨g, oo, none⟩) pts.length cp) (l := []) (m := pts) (L' := []) hL 52 rfl (.tmp 50) (.tmp 51) rfl rfl rfl (List.mem_cons_self) (SlOf.below HPD.out hL.low) (by simp; omega) ?_ ?_
                    · intro q hq; cases hq
                    · intro v' x' h0
                      have h' : Liv wd x' (wLiv pts rt t k x50 v' x54 x55 x56 x58 x60 x61 5) := h0.sub (by
                        intro q hq
                        rcases mem1 (show q ∈ [(52, v', pts)] from hq) with rfl
                        · exact (List.mem_cons_self))
                      exact hK _ _ ⟨SOF _ (h').low, 5, x50, v', x54, x55, x56, x58, x60, x61, rfl, by decide, Nat.succ.inj hn, by rfl, h'⟩
                  · refine wpOp_step rfl (fun K hK => ?_)
                    have h' : Liv wd _ (wLiv pts rt t k x50 x52 (.slice (some ⟨x.heap.size, 0, none⟩) 1 1) x55 x56 x58 x60 x61 6) := (hL.build 54 [t] (by simp)).sub (L' := wLiv pts rt t k x50 x52 (.slice (some ⟨x.heap.size, 0, none⟩) 1 1) x55 x56 x58 x60 x61 6) (by
                      intro q hq
                      rcases mem2 (show q ∈ [(50, x50, []), (54, .slice (some ⟨x.heap.size, 0, none⟩) 1 1, [t])] from hq) with rfl | rfl
                      · exact (List.mem_cons_of_mem _ (List.mem_cons_self))
                      · exact (List.mem_cons_self))
                    refine step_build1 rfl (.tmp 53) _ rfl rfl (hK _ _ ⟨SOF _ (h').low, 6, x50, x52, _, x55, x56, x58, x60, x61, rfl, by decide, Nat.succ.inj hn, by rfl, h'⟩)
                  · refine wpOp_step rfl (fun K hK => ?_)
                    have h' : Liv wd _ (wLiv pts rt t k x50 x52 x54 x55 (.slice (some ⟨x.heap.size, 0, none⟩) 0 0) x58 x60 x61 7) := (hL.build 56 [] (by simp)).sub (L' := wLiv pts rt t k x50 x52 x54 x55 (.slice (some ⟨x.heap.size, 0, none⟩) 0 0) x58 x60 x61 7) (by
                      intro q hq
                      rcases mem2 (show q ∈ [(50, x50, []), (56, .slice (some ⟨x.heap.size, 0, none⟩) 0 0, [])] from hq) with rfl | rfl
                      · exact (List.mem_cons_of_mem _ (List.mem_cons_self))
                      · exact (List.mem_cons_self))
                    refine step_build0 rfl rfl (hK _ _ ⟨SOF _ (h').low, 7, x50, x52, x54, x55, _, x58, x60, x61, rfl, by decide, Nat.succ.inj hn, by rfl, h'⟩)
                  · refine wpOp_step rfl (fun K hK => ?_)
                    have h' : Liv wd _ (wLiv pts rt t k x50 x52 x54 x55 x56 x58 (.slice (some ⟨x.heap.size, 0, none⟩) 1 1) x61 8) := (hL.build 60 [(k : Int)] (by simp)).sub (L' := wLiv pts rt t k x50 x52 x54 x55 x56 x58 (.slice (some ⟨x.heap.size, 0, none⟩) 1 1) x61 8) (by
                      intro q hq
                      rcases mem2 (show q ∈ [(50, x50, []), (60, .slice (some ⟨x.heap.size, 0, none⟩) 1 1, [(k : Int)])] from hq) with rfl | rfl
                      · exact (List.mem_cons_of_mem _ (List.mem_cons_self))
                      · exact (List.mem_cons_self))
                    refine step_build1 rfl (.tmp 59) _ rfl rfl (hK _ _ ⟨SOF _ (h').low, 8, x50, x52, x54, x55, x56, x58, _, x61, rfl, by decide, Nat.succ.inj hn, by rfl, h'⟩)
                · refine ⟨[1, 7, 11], by kernel_rfl, by simp, ?_⟩
                  intro i hi
                  have hi : i = 1 ∨ i = 7 ∨ i = 11 := by simpa using hi
                  rcases hi with rfl | rfl | rfl
                  · refine wpOp_step rfl (fun K hK => ?_)
                    have h' : Liv wd _ (wLiv pts rt t k (.slice (some ⟨x.heap.size, 0, none⟩) 0 0) x52 x54 x55 x56 x58 x60 x61 6) := (hL.build 50 [] (by simp)).sub (L' := wLiv pts rt t k (.slice (some ⟨x.heap.size, 0, none⟩) 0 0) x52 x54 x55 x56 x58 x60 x61 6) (by
                      intro q hq
                      rcases mem2 (show q ∈ [(50, .slice (some ⟨x.heap.size, 0, none⟩) 0 0, []), (54, x54, [t])] from hq) with rfl | rfl
                      · exact (List.mem_cons_self)
                      · exact (List.mem_cons_of_mem _ (List.mem_cons_self)))
                    refine step_build0 rfl rfl (hK _ _ ⟨SOF _ (h').low, 6, _, x52, x54, x55, x56, x58, x60, x61, rfl, by decide, Nat.succ.inj hn, by rfl, h'⟩)
                  · refine wpOp_step rfl (fun K hK => ?_)
                    have h' : Liv wd _ (wLiv pts rt t k x50 x52 x54 x55 (.slice (some ⟨x.heap.size, 0, none⟩) 0 0) x58 x60 x61 9) := (hL.build 56 [] (by simp)).sub (L' := wLiv pts rt t k x50 x52 x54 x55 (.slice (some ⟨x.heap.size, 0, none⟩) 0 0) x58 x60 x61 9) (by
                      intro q hq
                      rcases mem2 (show q ∈ [(54, x54, [t]), (56, .slice (some ⟨x.heap.size, 0, none⟩) 0 0, [])] from hq) with rfl | rfl
                      · exact (List.mem_cons_of_mem _ (List.mem_cons_self))
                      · exact (List.mem_cons_self))
                    refine step_build0 rfl rfl (hK _ _ ⟨SOF _ (h').low, 9, x50, x52, x54, x55, _, x58, x60, x61, rfl, by decide, Nat.succ.inj hn, by rfl, h'⟩)
                  · refine wpOp_step rfl (fun K hK => ?_)
                    have h' : Liv wd _ (wLiv pts rt t k x50 x52 x54 x55 x56 x58 (.slice (some ⟨x.heap.size, 0, none⟩) 1 1) x61 10) := (hL.build 60 [(k : Int)] (by simp)).sub (L' := wLiv pts rt t k x50 x52 x54 x55 x56 x58 (.slice (some ⟨x.heap.size, 0, none⟩) 1 1) x61 10) (by
                      intro q hq
                      rcases mem2 (show q ∈ [(54, x54, [t]), (60, .slice (some ⟨x.heap.size, 0, none⟩) 1 1, [(k : Int)])] from hq) with rfl | rfl
                      · exact (List.mem_cons_of_mem _ (List.mem_cons_self))
                      · exact (List.mem_cons_self))
                    refine step_build1 rfl (.tmp 59) _ rfl rfl (hK _ _ ⟨SOF _ (h').low, 10, x50, x52, x54, x55, x56, x58, _, x61, rfl, by decide, Nat.succ.inj hn, by rfl, h'⟩)
                · refine ⟨[1, 5, 11], by kernel_rfl, by simp, ?_⟩
                  intro i hi
                  have hi : i = 1 ∨ i = 5 ∨ i = 11 := by simpa using hi
                  rcases hi with rfl | rfl | rfl
                  · refine wpOp_step rfl (fun K hK => ?_)
                    have h' : Liv wd _ (wLiv pts rt t k (.slice (some ⟨x.heap.size, 0, none⟩) 0 0) x52 x54 x55 x56 x58 x60 x61 7) := (hL.build 50 [] (by simp)).sub (L' := wLiv pts rt t k (.slice (some ⟨x.heap.size, 0, none⟩) 0 0) x52 x54 x55 x56 x58 x60 x61 7) (by
                      intro q hq
                      rcases mem2 (show q ∈ [(50, .slice (some ⟨x.heap.size, 0, none⟩) 0 0, []), (56, x56, [])] from hq) with rfl | rfl
                      · exact (List.mem_cons_self)
                      · exact (List.mem_cons_of_mem _ (List.mem_cons_self)))
                    refine step_build0 rfl rfl (hK _ _ ⟨SOF _ (h').low, 7, _, x52, x54, x55, x56, x58, x60, x61, rfl, by decide, Nat.succ.inj hn, by rfl, h'⟩)
                  · refine wpOp_step rfl (fun K hK => ?_)
                    have h' : Liv wd _ (wLiv pts rt t k x50 x52 (.slice (some ⟨x.heap.size, 0, none⟩) 1 1) x55 x56 x58 x60 x61 9) := (hL.build 54 [t] (by simp)).sub (L' := wLiv pts rt t k x50 x52 (.slice (some ⟨x.heap.size, 0, none⟩) 1 1) x55 x56 x58 x60 x61 9) (by
                      intro q hq
                      rcases mem2 (show q ∈ [(54, .slice (some ⟨x.heap.size, 0, none⟩) 1 1, [t]), (56, x56, [])] from hq) with rfl | rfl
                      · exact (List.mem_cons_self)
                      · exact (List.mem_cons_of_mem _ (List.mem_cons_self)))
                    refine step_build1 rfl (.tmp 53) _ rfl rfl (hK _ _ ⟨SOF _ (h').low, 9, x50, x52, _, x55, x56, x58, x60, x61, rfl, by decide, Nat.succ.inj hn, by rfl, h'⟩)
                  · refine wpOp_step rfl (fun K hK => ?_)
                    have h' : Liv wd _ (wLiv pts rt t k x50 x52 x54 x55 x56 x58 (.slice (some ⟨x.heap.size, 0, none⟩) 1 1) x61 11) := (hL.build 60 [(k : Int)] (by simp)).sub (L' := wLiv pts rt t k x50 x52 x54 x55 x56 x58 (.slice (some ⟨x.heap.size, 0, none⟩) 1 1) x61 11) (by
                      intro q hq
                      rcases mem2 (show q ∈ [(56, x56, []), (60, .slice (some ⟨x.heap.size, 0, none⟩) 1 1, [(k : Int)])] from hq) with rfl | rfl
                      · exact (List.mem_cons_of_mem _ (List.mem_cons_self))
                      · exact (List.mem_cons_self))
                    refine step_build1 rfl (.tmp 59) _ rfl rfl (hK _ _ ⟨SOF _ (h').low, 11, x50, x52, x54, x55, x56, x58, _, x61, rfl, by decide, Nat.succ.inj hn, by rfl, h'⟩)
                · refine ⟨[1, 5, 7], by kernel_rfl, by simp, ?_⟩
                  intro i hi
                  have hi : i = 1 ∨ i = 5 ∨ i = 7 := by simpa using hi
                  rcases hi with rfl | rfl | rfl
                  · refine wpOp_step rfl (fun K hK => ?_)
                    have h' : Liv wd _ (wLiv pts rt t k (.slice (some ⟨x.heap.size, 0, none⟩) 0 0) x52 x54 x55 x56 x58 x60 x61 8) := (hL.build 50 [] (by simp)).sub (L' := wLiv pts rt t k (.slice (some ⟨x.heap.size, 0, none⟩) 0 0) x52 x54 x55 x56 x58 x60 x61 8) (by
                      intro q hq
                      rcases mem2 (show q ∈ [(50, .slice (some ⟨x.heap.size, 0, none⟩) 0 0, []), (60, x60, [(k : Int)])] from hq) with rfl | rfl
                      · exact (List.mem_cons_self)
                      · exact (List.mem_cons_of_mem _ (List.mem_cons_self)))
                    refine step_build0 rfl rfl (hK _ _ ⟨SOF _ (h').low, 8, _, x52, x54, x55, x56, x58, x60, x61, rfl, by decide, Nat.succ.inj hn, by rfl, h'⟩)
                  · refine wpOp_step rfl (fun K hK => ?_)
                    have h' : Liv wd _ (wLiv pts rt t k x50 x52 (.slice (some ⟨x.heap.size, 0, none⟩) 1 1) x55 x56 x58 x60 x61 10) := (hL.build 54 [t] (by simp)).sub (L' := wLiv pts rt t k x50 x52 (.slice (some ⟨x.heap.size, 0, none⟩) 1 1) x55 x56 x58 x60 x61 10) (by
                      intro q hq
                      rcases mem2 (show q ∈ [(54, .slice (some ⟨x.heap.size, 0, none⟩) 1 1, [t]), (60, x60, [(k : Int)])] from hq) with rfl | rfl
                      · exact (List.mem_cons_self)
                      · exact (List.mem_cons_of_mem _ (List.mem_cons_self)))
                    refine step_build1 rfl (.tmp 53) _ rfl rfl (hK _ _ ⟨SOF _ (h').low, 10, x50, x52, _, x55, x56, x58, x60, x61, rfl, by decide, Nat.succ.inj hn, by rfl, h'⟩)
                  · refine wpOp_step rfl (fun K hK => ?_)
                    have h' : Liv wd _ (wLiv pts rt t k x50 x52 x54 x55 (.slice (some ⟨x.heap.size, 0, none⟩) 0 0) x58 x60 x61 11) := (hL.build 56 [] (by simp)).sub (L' := wLiv pts rt t k x50 x52 x54 x55 (.slice (some ⟨x.heap.size, 0, none⟩) 0 0) x58 x60 x61 11) (by
                      intro q hq
                      rcases mem2 (show q ∈ [(56, .slice (some ⟨x.heap.size, 0, none⟩) 0 0, []), (60, x60, [(k : Int)])] from hq) with rfl | rfl
                      · exact (List.mem_cons_self)
                      · exact (List.mem_cons_of_mem _ (List.mem_cons_self)))
                    refine step_build0 rfl rfl (hK _ _ ⟨SOF _ (h').low, 11, x50, x52, x54, x55, _, x58, x60, x61, rfl, by decide, Nat.succ.inj hn, by rfl, h'⟩)
                · refine ⟨[5, 7, 11], by kernel_rfl, by simp, ?_⟩
                  intro i hi
                  have hi : i = 5 ∨ i = 7 ∨ i = 11 := by simpa using hi
                  rcases hi with rfl | rfl | rfl
                  · refine wpOp_step rfl (fun K hK => ?_)
                    have h' : Liv wd _ (wLiv pts rt t k x50 x52 (.slice (some ⟨x.heap.size, 0, none⟩) 1 1) x55 x56 x58 x60 x61 12) := (hL.build 54 [t] (by simp)).sub (L' := wLiv pts rt t k x50 x52 (.slice (some ⟨x.heap.size, 0, none⟩) 1 1) x55 x56 x58 x60 x61 12) (by
                      intro q hq
                      rcases mem2 (show q ∈ [(52, x52, pts), (54, .slice (some ⟨x.heap.size, 0, none⟩) 1 1, [t])] from hq) with rfl | rfl
                      · exact (List.mem_cons_of_mem _ (List.mem_cons_self))
                      · exact (List.mem_cons_self))
                    refine step_build1 rfl (.tmp 53) _ rfl rfl (hK _ _ ⟨SOF _ (h').low, 12, x50, x52, _, x55, x56, x58, x60, x61, rfl, by decide, Nat.succ.inj hn, by rfl, h'⟩)
                  · refine wpOp_step rfl (fun K hK => ?_)
                    have h' : Liv wd _ (wLiv pts rt t k x50 x52 x54 x55 (.slice (some ⟨x.heap.size, 0, none⟩) 0 0) x58 x60 x61 13) := (hL.build 56 [] (by simp)).sub (L' := wLiv pts rt t k x50 x52 x54 x55 (.slice (some ⟨x.heap.size, 0, none⟩) 0 0) x58 x60 x61 13) (by
                      intro q hq
                      rcases mem2 (show q ∈ [(52, x52, pts), (56, .slice (some ⟨x.heap.size, 0, none⟩) 0 0, [])] from hq) with rfl | rfl
                      · exact (List.mem_cons_of_mem _ (List.mem_cons_self))
                      · exact (List.mem_cons_self))
                    refine step_build0 rfl rfl (hK _ _ ⟨SOF _ (h').low, 13, x50, x52, x54, x55, _, x58, x60, x61, rfl, by decide, Nat.succ.inj hn, by rfl, h'⟩)
                  · refine wpOp_step rfl (fun K hK => ?_)
                    have h' : Liv wd _ (wLiv pts rt t k x50 x52 x54 x55 x56 x58 (.slice (some ⟨x.heap.size, 0, none⟩) 1 1) x61 14) := (hL.build 60 [(k : Int)] (by simp)).sub (L' := wLiv pts rt t k x50 x52 x54 x55 x56 x58 (.slice (some ⟨x.heap.size, 0, none⟩) 1 1) x61 14) (by
                      intro q hq
                      rcases mem2 (show q ∈ [(52, x52, pts), (60, .slice (some ⟨x.heap.size, 0, none⟩) 1 1, [(k : Int)])] from hq) with rfl | rfl
                      · exact (List.mem_cons_of_mem _ (List.mem_cons_self))
                      · exact (List.mem_cons_self))
                    refine step_build1 rfl (.tmp 59) _ rfl rfl (hK _ _ ⟨SOF _ (h').low, 14, x50, x52, x54, x55, x56, x58, _, x61, rfl, by decide, Nat.succ.inj hn, by rfl, h'⟩)
                · refine ⟨[3, 7, 11], by kernel_rfl, by simp, ?_⟩
                  intro i hi
                  have hi : i = 3 ∨ i = 7 ∨ i = 11 := by simpa using hi
                  rcases hi with rfl | rfl | rfl
                  · refine wpOp_step rfl (fun K hK => ?_)
                    refine step_liv (τ := 50) (v := x50) (u := Value.slice (some ⟨g, oo, none⟩) pts.length cp) (l := []) (m := pts) (L' := [(54, x54, [t])]) hL 52 rfl (.tmp 50) (.tmp 51) rfl rfl rfl (List.mem_cons_self) (SlOf.below HPD.out hL.low) (by simp; omega) ?_ ?_
                    · intro q hq
                      rcases mem1 hq with rfl
                      · exact ⟨(List.mem_cons_of_mem _ (List.mem_cons_self)), (by decide : (54 : Nat) ≠ 50)⟩
                    · intro v' x' h0
                      have h' : Liv wd x' (wLiv pts rt t k x50 v' x54 x55 x56 x58 x60 x61 12) := h0.sub (by
                        intro q hq
                        rcases mem2 (show q ∈ [(52, v', pts), (54, x54, [t])] from hq) with rfl | rfl
                        · exact (List.mem_cons_self)
                        · exact (List.mem_cons_of_mem _ (List.mem_cons_self)))
                      exact hK _ _ ⟨SOF _ (h').low, 12, x50, v', x54, x55, x56, x58, x60, x61, rfl, by decide, Nat.succ.inj hn, by rfl, h'⟩
                  · refine wpOp_step rfl (fun K hK => ?_)
                    have h' : Liv wd _ (wLiv pts rt t k x50 x52 x54 x55 (.slice (some ⟨x.heap.size, 0, none⟩) 0 0) x58 x60 x61 15) := (hL.build 56 [] (by simp)).sub (L' := wLiv pts rt t k x50 x52 x54 x55 (.slice (some ⟨x.heap.size, 0, none⟩) 0 0) x58 x60 x61 15) (by
                      intro q hq
                      rcases mem3 (show q ∈ [(50, x50, []), (54, x54, [t]), (56, .slice (some ⟨x.heap.size, 0, none⟩) 0 0, [])] from hq) with rfl | rfl | rfl
                      · exact (List.mem_cons_of_mem _ (List.mem_cons_self))
                      · exact (List.mem_cons_of_mem _ (List.mem_cons_of_mem _ (List.mem_cons_self)))
                      · exact (List.mem_cons_self))
                    refine step_build0 rfl rfl (hK _ _ ⟨SOF _ (h').low, 15, x50, x52, x54, x55, _, x58, x60, x61, rfl, by decide, Nat.succ.inj hn, by rfl, h'⟩)
                  · refine wpOp_step rfl (fun K hK => ?_)
                    have h' : Liv wd _ (wLiv pts rt t k x50 x52 x54 x55 x56 x58 (.slice (some ⟨x.heap.size, 0, none⟩) 1 1) x61 16) := (hL.build 60 [(k : Int)] (by simp)).sub (L' := wLiv pts rt t k x50 x52 x54 x55 x56 x58 (.slice (some ⟨x.heap.size, 0, none⟩) 1 1) x61 16) (by
                      intro q hq
                      rcases mem3 (show q ∈ [(50, x50, []), (54, x54, [t]), (60, .slice (some ⟨x.heap.size, 0, none⟩) 1 1, [(k : Int)])] from hq) with rfl | rfl | rfl
                      · exact (List.mem_cons_of_mem _ (List.mem_cons_self))
                      · exact (List.mem_cons_of_mem _ (List.mem_cons_of_mem _ (List.mem_cons_self)))
                      · exact (List.mem_cons_self))
                    refine step_build1 rfl (.tmp 59) _ rfl rfl (hK _ _ ⟨SOF _ (h').low, 16, x50, x52, x54, x55, x56, x58, _, x61, rfl, by decide, Nat.succ.inj hn, by rfl, h'⟩)
                · refine ⟨[3, 5, 11], by kernel_rfl, by simp, ?_⟩
                  intro i hi
                  have hi : i = 3 ∨ i = 5 ∨ i = 11 := by simpa using hi
                  rcases hi with rfl | rfl | rfl
                  · refine wpOp_step rfl (fun K hK => ?_)
                    refine step_liv (τ := 50) (v := x50) (u := Value.slice (some ⟨g, oo, none⟩) pts.length cp) (l := []) (m := pts) (L' := [(56, x56, [])]) hL 52 rfl (.tmp 50) (.tmp 51) rfl rfl rfl (List.mem_cons_self) (SlOf.below HPD.out hL.low) (by simp; omega) ?_ ?_
                    · intro q hq
                      rcases mem1 hq with rfl
                      · exact ⟨(List.mem_cons_of_mem _ (List.mem_cons_self)), (by decide : (56 : Nat) ≠ 50)⟩
                    · intro v' x' h0
                      have h' : Liv wd x' (wLiv pts rt t k x50 v' x54 x55 x56 x58 x60 x61 13) := h0.sub (by
                        intro q hq
                        rcases mem2 (show q ∈ [(52, v', pts), (56, x56, [])] from hq) with rfl | rfl
                        · exact (List.mem_cons_self)
                        · exact (List.mem_cons_of_mem _ (List.mem_cons_self)))
                      exact hK _ _ ⟨SOF _ (h').low, 13, x50, v', x54, x55, x56, x58, x60, x61, rfl, by decide, Nat.succ.inj hn, by rfl, h'⟩
                  · refine wpOp_step rfl (fun K hK => ?_)
                    have h' : Liv wd _ (wLiv pts rt t k x50 x52 (.slice (some ⟨x.heap.size, 0, none⟩) 1 1) x55 x56 x58 x60 x61 15) := (hL.build 54 [t] (by simp)).sub (L' := wLiv pts rt t k x50 x52 (.slice (some ⟨x.heap.size, 0, none⟩) 1 1) x55 x56 x58 x60 x61 15) (by
                      intro q hq
                      rcases mem3 (show q ∈ [(50, x50, []), (54, .slice (some ⟨x.heap.size, 0, none⟩) 1 1, [t]), (56, x56, [])] from hq) with rfl | rfl | rfl
                      · exact (List.mem_cons_of_mem _ (List.mem_cons_self))
                      · exact (List.mem_cons_self)
                      · exact (List.mem_cons_of_mem _ (List.mem_cons_of_mem _ (List.mem_cons_self))))
                    refine step_build1 rfl (.tmp 53) _ rfl rfl (hK _ _ ⟨SOF _ (h').low, 15, x50, x52, _, x55, x56, x58, x60, x61, rfl, by decide, Nat.succ.inj hn, by rfl, h'⟩)
                  · refine wpOp_step rfl (fun K hK => ?_)
                    have h' : Liv wd _ (wLiv pts rt t k x50 x52 x54 x55 x56 x58 (.slice (some ⟨x.heap.size, 0, none⟩) 1 1) x61 17) := (hL.build 60 [(k : Int)] (by simp)).sub (L' := wLiv pts rt t k x50 x52 x54 x55 x56 x58 (.slice (some ⟨x.heap.size, 0, none⟩) 1 1) x61 17) (by
                      intro q hq
                      rcases mem3 (show q ∈ [(50, x50, []), (56, x56, []), (60, .slice (some ⟨x.heap.size, 0, none⟩) 1 1, [(k : Int)])] from hq) with rfl | rfl | rfl
                      · exact (List.mem_cons_of_mem _ (List.mem_cons_self))
                      · exact (List.mem_cons_of_mem _ (List.mem_cons_of_mem _ (List.mem_cons_self)))
                      · exact (List.mem_cons_self))
                    refine step_build1 rfl (.tmp 59) _ rfl rfl (hK _ _ ⟨SOF _ (h').low, 17, x50, x52, x54, x55, x56, x58, _, x61, rfl, by decide, Nat.succ.inj hn, by rfl, h'⟩)
                · refine ⟨[3, 5, 7], by kernel_rfl, by simp, ?_⟩
                  intro i hi
                  have hi : i = 3 ∨ i = 5 ∨ i = 7 := by simpa using hi
                  rcases hi with rfl | rfl | rfl
                  · refine wpOp_step rfl (fun K hK => ?_)
                    refine step_liv (τ := 50) (v := x50) (u := Value.slice (some ⟨g, oo, none⟩) pts.length cp) (l := []) (m := pts) (L' := [(60, x60, [(k : Int)])]) hL 52 rfl (.tmp 50) (.tmp 51) rfl rfl rfl (List.mem_cons_self) (SlOf.below HPD.out hL.low) (by simp; omega) ?_ ?_
                    · intro q hq
                      rcases mem1 hq with rfl
                      · exact ⟨(List.mem_cons_of_mem _ (List.mem_cons_self)), (by decide : (60 : Nat) ≠ 50)⟩
                    · intro v' x' h0
                      have h' : Liv wd x' (wLiv pts rt t k x50 v' x54 x55 x56 x58 x60 x61 14) := h0.sub (by
                        intro q hq
                        rcases mem2 (show q ∈ [(52, v', pts), (60, x60, [(k : Int)])] from hq) with rfl | rfl
                        · exact (List.mem_cons_self)
                        · exact (List.mem_cons_of_mem _ (List.mem_cons_self)))
                      exact hK _ _ ⟨SOF _ (h').low, 14, x50, v', x54, x55, x56, x58, x60, x61, rfl, by decide, Nat.succ.inj hn, by rfl, h'⟩
                  · refine wpOp_step rfl (fun K hK => ?_)
                    have h' : Liv wd _ (wLiv pts rt t k x50 x52 (.slice (some ⟨x.heap.size, 0, none⟩) 1 1) x55 x56 x58 x60 x61 16) := (hL.build 54 [t] (by simp)).sub (L' := wLiv pts rt t k x50 x52 (.slice (some ⟨x.heap.size, 0, none⟩) 1 1) x55 x56 x58 x60 x61 16) (by
                      intro q hq
                      rcases mem3 (show q ∈ [(50, x50, []), (54, .slice (some ⟨x.heap.size, 0, none⟩) 1 1, [t]), (60, x60, [(k : Int)])] from hq) with rfl | rfl | rfl
                      · exact (List.mem_cons_of_mem _ (List.mem_cons_self))
                      · exact (List.mem_cons_self)
                      · exact (List.mem_cons_of_mem _ (List.mem_cons_of_mem _ (List.mem_cons_self))))
                    refine step_build1 rfl (.tmp 53) _ rfl rfl (hK _ _ ⟨SOF _ (h').low, 16, x50, x52, _, x55, x56, x58, x60, x61, rfl, by decide, Nat.succ.inj hn, by rfl, h'⟩)
                  · refine wpOp_step rfl (fun K hK => ?_)
                    have h' : Liv wd _ (wLiv pts rt t k x50 x52 x54 x55 (.slice (some ⟨x.heap.size, 0, none⟩) 0 0) x58 x60 x61 17) := (hL.build 56 [] (by simp)).sub (L' := wLiv pts rt t k x50 x52 x54 x55 (.slice (some ⟨x.heap.size, 0, none⟩) 0 0) x58 x60 x61 17) (by
                      intro q hq
                      rcases mem3 (show q ∈ [(50, x50, []), (56, .slice (some ⟨x.heap.size, 0, none⟩) 0 0, []), (60, x60, [(k : Int)])] from hq) with rfl | rfl | rfl
                      · exact (List.mem_cons_of_mem _ (List.mem_cons_self))
                      · exact (List.mem_cons_self)
                      · exact (List.mem_cons_of_mem _ (List.mem_cons_of_mem _ (List.mem_cons_self))))
                    refine step_build0 rfl rfl (hK _ _ ⟨SOF _ (h').low, 17, x50, x52, x54, x55, _, x58, x60, x61, rfl, by decide, Nat.succ.inj hn, by rfl, h'⟩)
                · refine ⟨[1, 11], by kernel_rfl, by simp, ?_⟩
                  intro i hi
                  have hi : i = 1 ∨ i = 11 := by simpa using hi
                  rcases hi with rfl | rfl
                  · refine wpOp_step rfl (fun K hK => ?_)
                    have h' : Liv wd _ (wLiv pts rt t k (.slice (some ⟨x.heap.size, 0, none⟩) 0 0) x52 x54 x55 x56 x58 x60 x61 15) := (hL.build 50 [] (by simp)).sub (L' := wLiv pts rt t k (.slice (some ⟨x.heap.size, 0, none⟩) 0 0) x52 x54 x55 x56 x58 x60 x61 15) (by
                      intro q hq
                      rcases mem3 (show q ∈ [(50, .slice (some ⟨x.heap.size, 0, none⟩) 0 0, []), (54, x54, [t]), (56, x56, [])] from hq) with rfl | rfl | rfl
                      · exact (List.mem_cons_self)
                      · exact (List.mem_cons_of_mem _ (List.mem_cons_self))
                      · exact (List.mem_cons_of_mem _ (List.mem_cons_of_mem _ (List.mem_cons_self))))
                    refine step_build0 rfl rfl (hK _ _ ⟨SOF _ (h').low, 15, _, x52, x54, x55, x56, x58, x60, x61, rfl, by decide, Nat.succ.inj hn, by rfl, h'⟩)
                  · refine wpOp_step rfl (fun K hK => ?_)
                    have h' : Liv wd _ (wLiv pts rt t k x50 x52 x54 x55 x56 x58 (.slice (some ⟨x.heap.size, 0, none⟩) 1 1) x61 18) := (hL.build 60 [(k : Int)] (by simp)).sub (L' := wLiv pts rt t k x50 x52 x54 x55 x56 x58 (.slice (some ⟨x.heap.size, 0, none⟩) 1 1) x61 18) (by
                      intro q hq
                      rcases mem3 (show q ∈ [(54, x54, [t]), (56, x56, []), (60, .slice (some ⟨x.heap.size, 0, none⟩) 1 1, [(k : Int)])] from hq) with rfl | rfl | rfl
                      · exact (List.mem_cons_of_mem _ (List.mem_cons_self))
                      · exact (List.mem_cons_of_mem _ (List.mem_cons_of_mem _ (List.mem_cons_self)))
                      · exact (List.mem_cons_self))
                    refine step_build1 rfl (.tmp 59) _ rfl rfl (hK _ _ ⟨SOF _ (h').low, 18, x50, x52, x54, x55, x56, x58, _, x61, rfl, by decide, Nat.succ.inj hn, by rfl, h'⟩)
                · refine ⟨[1, 7], by kernel_rfl, by simp, ?_⟩
                  intro i hi
                  have hi : i = 1 ∨ i = 7 := by simpa using hi
                  rcases hi with rfl | rfl
                  · refine wpOp_step rfl (fun K hK => ?_)
                    have h' : Liv wd _ (wLiv pts rt t k (.slice (some ⟨x.heap.size, 0, none⟩) 0 0) x52 x54 x55 x56 x58 x60 x61 16) := (hL.build 50 [] (by simp)).sub (L' := wLiv pts rt t k (.slice (some ⟨x.heap.size, 0, none⟩) 0 0) x52 x54 x55 x56 x58 x60 x61 16) (by
                      intro q hq
                      rcases mem3 (show q ∈ [(50, .slice (some ⟨x.heap.size, 0, none⟩) 0 0, []), (54, x54, [t]), (60, x60, [(k : Int)])] from hq) with rfl | rfl | rfl
                      · exact (List.mem_cons_self)
                      · exact (List.mem_cons_of_mem _ (List.mem_cons_self))
                      · exact (List.mem_cons_of_mem _ (List.mem_cons_of_mem _ (List.mem_cons_self))))
                    refine step_build0 rfl rfl (hK _ _ ⟨SOF _ (h').low, 16, _, x52, x54, x55, x56, x58, x60, x61, rfl, by decide, Nat.succ.inj hn, by rfl, h'⟩)
                  · refine wpOp_step rfl (fun K hK => ?_)
                    have h' : Liv wd _ (wLiv pts rt t k x50 x52 x54 x55 (.slice (some ⟨x.heap.size, 0, none⟩) 0 0) x58 x60 x61 18) := (hL.build 56 [] (by simp)).sub (L' := wLiv pts rt t k x50 x52 x54 x55 (.slice (some ⟨x.heap.size, 0, none⟩) 0 0) x58 x60 x61 18) (by
                      intro q hq
                      rcases mem3 (show q ∈ [(54, x54, [t]), (56, .slice (some ⟨x.heap.size, 0, none⟩) 0 0, []), (60, x60, [(k : Int)])] from hq) with rfl | rfl | rfl
                      · exact (List.mem_cons_of_mem _ (List.mem_cons_self))
                      · exact (List.mem_cons_self)
                      · exact (List.mem_cons_of_mem _ (List.mem_cons_of_mem _ (List.mem_cons_self))))
                    refine step_build0 rfl rfl (hK _ _ ⟨SOF _ (h').low, 18, x50, x52, x54, x55, _, x58, x60, x61, rfl, by decide, Nat.succ.inj hn, by rfl, h'⟩)
                · refine ⟨[1, 5], by kernel_rfl, by simp, ?_⟩
                  intro i hi
                  have hi : i = 1 ∨ i = 5 := by simpa using hi
                  rcases hi with rfl | rfl
                  · refine wpOp_step rfl (fun K hK => ?_)
                    have h' : Liv wd _ (wLiv pts rt t k (.slice (some ⟨x.heap.size, 0, none⟩) 0 0) x52 x54 x55 x56 x58 x60 x61 17) := (hL.build 50 [] (by simp)).sub (L' := wLiv pts rt t k (.slice (some ⟨x.heap.size, 0, none⟩) 0 0) x52 x54 x55 x56 x58 x60 x61 17) (by
                      intro q hq
                      rcases mem3 (show q ∈ [(50, .slice (some ⟨x.heap.size, 0, none⟩) 0 0, []), (56, x56, []), (60, x60, [(k : Int)])] from hq) with rfl | rfl | rfl
                      · exact (List.mem_cons_self)
                      · exact (List.mem_cons_of_mem _ (List.mem_cons_self))
                      · exact (List.mem_cons_of_mem _ (List.mem_cons_of_mem _ (List.mem_cons_self))))
                    refine step_build0 rfl rfl (hK _ _ ⟨SOF _ (h').low, 17, _, x52, x54, x55, x56, x58, x60, x61, rfl, by decide, Nat.succ.inj hn, by rfl, h'⟩)
                  · refine wpOp_step rfl (fun K hK => ?_)
                    have h' : Liv wd _ (wLiv pts rt t k x50 x52 (.slice (some ⟨x.heap.size, 0, none⟩) 1 1) x55 x56 x58 x60 x61 18) := (hL.build 54 [t] (by simp)).sub (L' := wLiv pts rt t k x50 x52 (.slice (some ⟨x.heap.size, 0, none⟩) 1 1) x55 x56 x58 x60 x61 18) (by
                      intro q hq
                      rcases mem3 (show q ∈ [(54, .slice (some ⟨x.heap.size, 0, none⟩) 1 1, [t]), (56, x56, []), (60, x60, [(k : Int)])] from hq) with rfl | rfl | rfl
                      · exact (List.mem_cons_self)
                      · exact (List.mem_cons_of_mem _ (List.mem_cons_self))
                      · exact (List.mem_cons_of_mem _ (List.mem_cons_of_mem _ (List.mem_cons_self))))
                    refine step_build1 rfl (.tmp 53) _ rfl rfl (hK _ _ ⟨SOF _ (h').low, 18, x50, x52, _, x55, x56, x58, x60, x61, rfl, by decide, Nat.succ.inj hn, by rfl, h'⟩)
                · refine ⟨[6, 7, 11], by kernel_rfl, by simp, ?_⟩
                  intro i hi
                  have hi : i = 6 ∨ i = 7 ∨ i = 11 := by simpa using hi
                  rcases hi with rfl | rfl | rfl
                  · refine wpOp_step rfl (fun K hK => ?_)
                    refine step_liv (τ := 52) (v := x52) (u := x54) (l := pts) (m := [t]) (L' := []) hL 55 rfl (.tmp 52) (.tmp 54) rfl rfl rfl (List.mem_cons_self) (own_sl intLen (hL.own (54, x54, [t]) (List.mem_cons_of_mem _ (List.mem_cons_self))) (by simp)) (by simp; omega) ?_ ?_
                    · intro q hq; cases hq
                    · intro v' x' h0
                      have h' : Liv wd x' (wLiv pts rt t k x50 x52 x54 v' x56 x58 x60 x61 19) := h0.sub (by
                        intro q hq
                        rcases mem1 (show q ∈ [(55, v', (pts ++ [t]))] from hq) with rfl
                        · exact (List.mem_cons_self))
                      exact hK _ _ ⟨SOF _ (h').low, 19, x50, x52, x54, v', x56, x58, x60, x61, rfl, by decide, Nat.succ.inj hn, by rfl, h'⟩
                  · refine wpOp_step rfl (fun K hK => ?_)
                    have h' : Liv wd _ (wLiv pts rt t k x50 x52 x54 x55 (.slice (some ⟨x.heap.size, 0, none⟩) 0 0) x58 x60 x61 20) := (hL.build 56 [] (by simp)).sub (L' := wLiv pts rt t k x50 x52 x54 x55 (.slice (some ⟨x.heap.size, 0, none⟩) 0 0) x58 x60 x61 20) (by
                      intro q hq
                      rcases mem3 (show q ∈ [(52, x52, pts), (54, x54, [t]), (56, .slice (some ⟨x.heap.size, 0, none⟩) 0 0, [])] from hq) with rfl | rfl | rfl
                      · exact (List.mem_cons_of_mem _ (List.mem_cons_self))
                      · exact (List.mem_cons_of_mem _ (List.mem_cons_of_mem _ (List.mem_cons_self)))
                      · exact (List.mem_cons_self))
                    refine step_build0 rfl rfl (hK _ _ ⟨SOF _ (h').low, 20, x50, x52, x54, x55, _, x58, x60, x61, rfl, by decide, Nat.succ.inj hn, by rfl, h'⟩)
                  · refine wpOp_step rfl (fun K hK => ?_)
                    have h' : Liv wd _ (wLiv pts rt t k x50 x52 x54 x55 x56 x58 (.slice (some ⟨x.heap.size, 0, none⟩) 1 1) x61 21) := (hL.build 60 [(k : Int)] (by simp)).sub (L' := wLiv pts rt t k x50 x52 x54 x55 x56 x58 (.slice (some ⟨x.heap.size, 0, none⟩) 1 1) x61 21) (by
                      intro q hq
                      rcases mem3 (show q ∈ [(52, x52, pts), (54, x54, [t]), (60, .slice (some ⟨x.heap.size, 0, none⟩) 1 1, [(k : Int)])] from hq) with rfl | rfl | rfl
                      · exact (List.mem_cons_of_mem _ (List.mem_cons_self))
                      · exact (List.mem_cons_of_mem _ (List.mem_cons_of_mem _ (List.mem_cons_self)))
                      · exact (List.mem_cons_self))
                    refine step_build1 rfl (.tmp 59) _ rfl rfl (hK _ _ ⟨SOF _ (h').low, 21, x50, x52, x54, x55, x56, x58, _, x61, rfl, by decide, Nat.succ.inj hn, by rfl, h'⟩)
                · refine ⟨[5, 11], by kernel_rfl, by simp, ?_⟩
                  intro i hi
                  have hi : i = 5 ∨ i = 11 := by simpa using hi
                  rcases hi with rfl | rfl
                  · refine wpOp_step rfl (fun K hK => ?_)
                    have h' : Liv wd _ (wLiv pts rt t k x50 x52 (.slice (some ⟨x.heap.size, 0, none⟩) 1 1) x55 x56 x58 x60 x61 20) := (hL.build 54 [t] (by simp)).sub (L' := wLiv pts rt t k x50 x52 (.slice (some ⟨x.heap.size, 0, none⟩) 1 1) x55 x56 x58 x60 x61 20) (by
                      intro q hq
                      rcases mem3 (show q ∈ [(52, x52, pts), (54, .slice (some ⟨x.heap.size, 0, none⟩) 1 1, [t]), (56, x56, [])] from hq) with rfl | rfl | rfl
                      · exact (List.mem_cons_of_mem _ (List.mem_cons_self))
                      · exact (List.mem_cons_self)
                      · exact (List.mem_cons_of_mem _ (List.mem_cons_of_mem _ (List.mem_cons_self))))
                    refine step_build1 rfl (.tmp 53) _ rfl rfl (hK _ _ ⟨SOF _ (h').low, 20, x50, x52, _, x55, x56, x58, x60, x61, rfl, by decide, Nat.succ.inj hn, by rfl, h'⟩)
                  · refine wpOp_step rfl (fun K hK => ?_)
                    have h' : Liv wd _ (wLiv pts rt t k x50 x52 x54 x55 x56 x58 (.slice (some ⟨x.heap.size, 0, none⟩) 1 1) x61 22) := (hL.build 60 [(k : Int)] (by simp)).sub (L' := wLiv pts rt t k x50 x52 x54 x55 x56 x58 (.slice (some ⟨x.heap.size, 0, none⟩) 1 1) x61 22) (by
                      intro q hq
                      rcases mem3 (show q ∈ [(52, x52, pts), (56, x56, []), (60, .slice (some ⟨x.heap.size, 0, none⟩) 1 1, [(k : Int)])] from hq) with rfl | rfl | rfl
                      · exact (List.mem_cons_of_mem _ (List.mem_cons_self))
                      · exact (List.mem_cons_of_mem _ (List.mem_cons_of_mem _ (List.mem_cons_self)))
                      · exact (List.mem_cons_self))
                    refine step_build1 rfl (.tmp 59) _ rfl rfl (hK _ _ ⟨SOF _ (h').low, 22, x50, x52, x54, x55, x56, x58, _, x61, rfl, by decide, Nat.succ.inj hn, by rfl, h'⟩)
                · refine ⟨[5, 7], by kernel_rfl, by simp, ?_⟩
                  intro i hi
                  have hi : i = 5 ∨ i = 7 := by simpa using hi
                  rcases hi with rfl | rfl
                  · refine wpOp_step rfl (fun K hK => ?_)
                    have h' : Liv wd _ (wLiv pts rt t k x50 x52 (.slice (some ⟨x.heap.size, 0, none⟩) 1 1) x55 x56 x58 x60 x61 21) := (hL.build 54 [t] (by simp)).sub (L' := wLiv pts rt t k x50 x52 (.slice (some ⟨x.heap.size, 0, none⟩) 1 1) x55 x56 x58 x60 x61 21) (by
                      intro q hq
                      rcases mem3 (show q ∈ [(52, x52, pts), (54, .slice (some ⟨x.heap.size, 0, none⟩) 1 1, [t]), (60, x60, [(k : Int)])] from hq) with rfl | rfl | rfl
                      · exact (List.mem_cons_of_mem _ (List.mem_cons_self))
                      · exact (List.mem_cons_self)
                      · exact (List.mem_cons_of_mem _ (List.mem_cons_of_mem _ (List.mem_cons_self))))
                    refine step_build1 rfl (.tmp 53) _ rfl rfl (hK _ _ ⟨SOF _ (h').low, 21, x50, x52, _, x55, x56, x58, x60, x61, rfl, by decide, Nat.succ.inj hn, by rfl, h'⟩)
                  · refine wpOp_step rfl (fun K hK => ?_)
                    have h' : Liv wd _ (wLiv pts rt t k x50 x52 x54 x55 (.slice (some ⟨x.heap.size, 0, none⟩) 0 0) x58 x60 x61 22) := (hL.build 56 [] (by simp)).sub (L' := wLiv pts rt t k x50 x52 x54 x55 (.slice (some ⟨x.heap.size, 0, none⟩) 0 0) x58 x60 x61 22) (by
                      intro q hq
                      rcases mem3 (show q ∈ [(52, x52, pts), (56, .slice (some ⟨x.heap.size, 0, none⟩) 0 0, []), (60, x60, [(k : Int)])] from hq) with rfl | rfl | rfl
                      · exact (List.mem_cons_of_mem _ (List.mem_cons_self))
                      · exact (List.mem_cons_self)
                      · exact (List.mem_cons_of_mem _ (List.mem_cons_of_mem _ (List.mem_cons_self))))
                    refine step_build0 rfl rfl (hK _ _ ⟨SOF _ (h').low, 22, x50, x52, x54, x55, _, x58, x60, x61, rfl, by decide, Nat.succ.inj hn, by rfl, h'⟩)
                · refine ⟨[3, 11], by kernel_rfl, by simp, ?_⟩
                  intro i hi
                  have hi : i = 3 ∨ i = 11 := by simpa using hi
                  rcases hi with rfl | rfl
                  · refine wpOp_step rfl (fun K hK => ?_)
                    refine step_liv (τ := 50) (v := x50) (u := Value.slice (some ⟨g, oo, none⟩) pts.length cp) (l := []) (m := pts) (L' := [(54, x54, [t]), (56, x56, [])]) hL 52 rfl (.tmp 50) (.tmp 51) rfl rfl rfl (List.mem_cons_self) (SlOf.below HPD.out hL.low) (by simp; omega) ?_ ?_
                    · intro q hq
                      rcases mem2 hq with rfl | rfl
                      · exact ⟨(List.mem_cons_of_mem _ (List.mem_cons_self)), (by decide : (54 : Nat) ≠ 50)⟩
                      · exact ⟨(List.mem_cons_of_mem _ (List.mem_cons_of_mem _ (List.mem_cons_self))), (by decide : (56 : Nat) ≠ 50)⟩
                    · intro v' x' h0
                      have h' : Liv wd x' (wLiv pts rt t k x50 v' x54 x55 x56 x58 x60 x61 20) := h0.sub (by
                        intro q hq
                        rcases mem3 (show q ∈ [(52, v', pts), (54, x54, [t]), (56, x56, [])] from hq) with rfl | rfl | rfl
                        · exact (List.mem_cons_self)
                        · exact (List.mem_cons_of_mem _ (List.mem_cons_self))
                        · exact (List.mem_cons_of_mem _ (List.mem_cons_of_mem _ (List.mem_cons_self))))
                      exact hK _ _ ⟨SOF _ (h').low, 20, x50, v', x54, x55, x56, x58, x60, x61, rfl, by decide, Nat.succ.inj hn, by rfl, h'⟩
                  · refine wpOp_step rfl (fun K hK => ?_)
                    have h' : Liv wd _ (wLiv pts rt t k x50 x52 x54 x55 x56 x58 (.slice (some ⟨x.heap.size, 0, none⟩) 1 1) x61 23) := (hL.build 60 [(k : Int)] (by simp)).sub (L' := wLiv pts rt t k x50 x52 x54 x55 x56 x58 (.slice (some ⟨x.heap.size, 0, none⟩) 1 1) x61 23) (by
                      intro q hq
                      rcases mem4 (show q ∈ [(50, x50, []), (54, x54, [t]), (56, x56, []), (60, .slice (some ⟨x.heap.size, 0, none⟩) 1 1, [(k : Int)])] from hq) with rfl | rfl | rfl | rfl
                      · exact (List.mem_cons_of_mem _ (List.mem_cons_self))
                      · exact (List.mem_cons_of_mem _ (List.mem_cons_of_mem _ (List.mem_cons_self)))
                      · exact (List.mem_cons_of_mem _ (List.mem_cons_of_mem _ (List.mem_cons_of_mem _ (List.mem_cons_self))))
                      · exact (List.mem_cons_self))
                    refine step_build1 rfl (.tmp 59) _ rfl rfl (hK _ _ ⟨SOF _ (h').low, 23, x50, x52, x54, x55, x56, x58, _, x61, rfl, by decide, Nat.succ.inj hn, by rfl, h'⟩)
                · refine ⟨[3, 7], by kernel_rfl, by simp, ?_⟩
                  intro i hi
                  have hi : i = 3 ∨ i = 7 := by simpa using hi
                  rcases hi with rfl | rfl
                  · refine wpOp_step rfl (fun K hK => ?_)
                    refine step_liv (τ := 50) (v := x50) (u := Value.slice (some ⟨g, oo, none⟩) pts.length cp) (l := []) (m := pts) (L' := [(54, x54, [t]), (60, x60, [(k : Int)])]) hL 52 rfl (.tmp 50) (.tmp 51) rfl rfl rfl (List.mem_cons_self) (SlOf.below HPD.out hL.low) (by simp; omega) ?_ ?_
                    · intro q hq
                      rcases mem2 hq with rfl | rfl
                      · exact ⟨(List.mem_cons_of_mem _ (List.mem_cons_self)), (by decide : (54 : Nat) ≠ 50)⟩
                      · exact ⟨(List.mem_cons_of_mem _ (List.mem_cons_of_mem _ (List.mem_cons_self))), (by decide : (60 : Nat) ≠ 50)⟩
                    · intro v' x' h0
                      have h' : Liv wd x' (wLiv pts rt t k x50 v' x54 x55 x56 x58 x60 x61 21) := h0.sub (by
                        intro q hq
                        rcases mem3 (show q ∈ [(52, v', pts), (54, x54, [t]), (60, x60, [(k : Int)])] from hq) with rfl | rfl | rfl
                        · exact (List.mem_cons_self)
                        · exact (List.mem_cons_of_mem _ (List.mem_cons_self))
                        · exact (List.mem_cons_of_mem _ (List.mem_cons_of_mem _ (List.mem_cons_self))))
                      exact hK _ _ ⟨SOF _ (h').low, 21, x50, v', x54, x55, x56, x58, x60, x61, rfl, by decide, Nat.succ.inj hn, by rfl, h'⟩
                  · refine wpOp_step rfl (fun K hK => ?_)
                    have h' : Liv wd _ (wLiv pts rt t k x50 x52 x54 x55 (.slice (some ⟨x.heap.size, 0, none⟩) 0 0) x58 x60 x61 23) := (hL.build 56 [] (by simp)).sub (L' := wLiv pts rt t k x50 x52 x54 x55 (.slice (some ⟨x.heap.size, 0, none⟩) 0 0) x58 x60 x61 23) (by
                      intro q hq
                      rcases mem4 (show q ∈ [(50, x50, []), (54, x54, [t]), (56, .slice (some ⟨x.heap.size, 0, none⟩) 0 0, []), (60, x60, [(k : Int)])] from hq) with rfl | rfl | rfl | rfl
                      · exact (List.mem_cons_of_mem _ (List.mem_cons_self))
                      · exact (List.mem_cons_of_mem _ (List.mem_cons_of_mem _ (List.mem_cons_self)))
                      · exact (List.mem_cons_self)
                      · exact (List.mem_cons_of_mem _ (List.mem_cons_of_mem _ (List.mem_cons_of_mem _ (List.mem_cons_self)))))
                    refine step_build0 rfl rfl (hK _ _ ⟨SOF _ (h').low, 23, x50, x52, x54, x55, _, x58, x60, x61, rfl, by decide, Nat.succ.inj hn, by rfl, h'⟩)
                · refine ⟨[3, 5], by kernel_rfl, by simp, ?_⟩
                  intro i hi
                  have hi : i = 3 ∨ i = 5 := by simpa using hi
                  rcases hi with rfl | rfl
                  · refine wpOp_step rfl (fun K hK => ?_)
                    refine step_liv (τ := 50) (v := x50) (u := Value.slice (some ⟨g, oo, none⟩) pts.length cp) (l := []) (m := pts) (L' := [(56, x56, []), (60, x60, [(k : Int)])]) hL 52 rfl (.tmp 50) (.tmp 51) rfl rfl rfl (List.mem_cons_self) (SlOf.below HPD.out hL.low) (by simp; omega) ?_ ?_
                    · intro q hq
                      rcases mem2 hq with rfl | rfl
                      · exact ⟨(List.mem_cons_of_mem _ (List.mem_cons_self)), (by decide : (56 : Nat) ≠ 50)⟩
                      · exact ⟨(List.mem_cons_of_mem _ (List.mem_cons_of_mem _ (List.mem_cons_self))), (by decide : (60 : Nat) ≠ 50)⟩
                    · intro v' x' h0
                      have h' : Liv wd x' (wLiv pts rt t k x50 v' x54 x55 x56 x58 x60 x61 22) := h0.sub (by
                        intro q hq
                        rcases mem3 (show q ∈ [(52, v', pts), (56, x56, []), (60, x60, [(k : Int)])] from hq) with rfl | rfl | rfl
                        · exact (List.mem_cons_self)
                        · exact (List.mem_cons_of_mem _ (List.mem_cons_self))
                        · exact (List.mem_cons_of_mem _ (List.mem_cons_of_mem _ (List.mem_cons_self))))
                      exact hK _ _ ⟨SOF _ (h').low, 22, x50, v', x54, x55, x56, x58, x60, x61, rfl, by decide, Nat.succ.inj hn, by rfl, h'⟩
                  · refine wpOp_step rfl (fun K hK => ?_)
                    have h' : Liv wd _ (wLiv pts rt t k x50 x52 (.slice (some ⟨x.heap.size, 0, none⟩) 1 1) x55 x56 x58 x60 x61 23) := (hL.build 54 [t] (by simp)).sub (L' := wLiv pts rt t k x50 x52 (.slice (some ⟨x.heap.size, 0, none⟩) 1 1) x55 x56 x58 x60 x61 23) (by
                      intro q hq
                      rcases mem4 (show q ∈ [(50, x50, []), (54, .slice (some ⟨x.heap.size, 0, none⟩) 1 1, [t]), (56, x56, []), (60, x60, [(k : Int)])] from hq) with rfl | rfl | rfl | rfl
                      · exact (List.mem_cons_of_mem _ (List.mem_cons_self))
                      · exact (List.mem_cons_self)
                      · exact (List.mem_cons_of_mem _ (List.mem_cons_of_mem _ (List.mem_cons_self)))
                      · exact (List.mem_cons_of_mem _ (List.mem_cons_of_mem _ (List.mem_cons_of_mem _ (List.mem_cons_self)))))
                    refine step_build1 rfl (.tmp 53) _ rfl rfl (hK _ _ ⟨SOF _ (h').low, 23, x50, x52, _, x55, x56, x58, x60, x61, rfl, by decide, Nat.succ.inj hn, by rfl, h'⟩)
                · refine ⟨[1], by kernel_rfl, by simp, ?_⟩
                  intro i hi
                  obtain rfl : i = 1 := by simpa using hi
                  · refine wpOp_step rfl (fun K hK => ?_)
                    have h' : Liv wd _ (wLiv pts rt t k (.slice (some ⟨x.heap.size, 0, none⟩) 0 0) x52 x54 x55 x56 x58 x60 x61 23) := (hL.build 50 [] (by simp)).sub (L' := wLiv pts rt t k (.slice (some ⟨x.heap.size, 0, none⟩) 0 0) x52 x54 x55 x56 x58 x60 x61 23) (by
                      intro q hq
                      rcases mem4 (show q ∈ [(50, .slice (some ⟨x.heap.size, 0, none⟩) 0 0, []), (54, x54, [t]), (56, x56, []), (60, x60, [(k : Int)])] from hq) with rfl | rfl | rfl | rfl
                      · exact (List.mem_cons_self)
                      · exact (List.mem_cons_of_mem _ (List.mem_cons_self))
                      · exact (List.mem_cons_of_mem _ (List.mem_cons_of_mem _ (List.mem_cons_self)))
                      · exact (List.mem_cons_of_mem _ (List.mem_cons_of_mem _ (List.mem_cons_of_mem _ (List.mem_cons_self)))))
                    refine step_build0 rfl rfl (hK _ _ ⟨SOF _ (h').low, 23, _, x52, x54, x55, x56, x58, x60, x61, rfl, by decide, Nat.succ.inj hn, by rfl, h'⟩)
                · refine ⟨[7, 11], by kernel_rfl, by simp, ?_⟩
                  intro i hi
                  have hi : i = 7 ∨ i = 11 := by simpa using hi
                  rcases hi with rfl | rfl
                  · refine wpOp_step rfl (fun K hK => ?_)
                    have h' : Liv wd _ (wLiv pts rt t k x50 x52 x54 x55 (.slice (some ⟨x.heap.size, 0, none⟩) 0 0) x58 x60 x61 24) := (hL.build 56 [] (by simp)).sub (L' := wLiv pts rt t k x50 x52 x54 x55 (.slice (some ⟨x.heap.size, 0, none⟩) 0 0) x58 x60 x61 24) (by
                      intro q hq
                      rcases mem2 (show q ∈ [(55, x55, (pts ++ [t])), (56, .slice (some ⟨x.heap.size, 0, none⟩) 0 0, [])] from hq) with rfl | rfl
                      · exact (List.mem_cons_of_mem _ (List.mem_cons_self))
                      · exact (List.mem_cons_self))
                    refine step_build0 rfl rfl (hK _ _ ⟨SOF _ (h').low, 24, x50, x52, x54, x55, _, x58, x60, x61, rfl, by decide, Nat.succ.inj hn, by rfl, h'⟩)
                  · refine wpOp_step rfl (fun K hK => ?_)
                    have h' : Liv wd _ (wLiv pts rt t k x50 x52 x54 x55 x56 x58 (.slice (some ⟨x.heap.size, 0, none⟩) 1 1) x61 25) := (hL.build 60 [(k : Int)] (by simp)).sub (L' := wLiv pts rt t k x50 x52 x54 x55 x56 x58 (.slice (some ⟨x.heap.size, 0, none⟩) 1 1) x61 25) (by
                      intro q hq
                      rcases mem2 (show q ∈ [(55, x55, (pts ++ [t])), (60, .slice (some ⟨x.heap.size, 0, none⟩) 1 1, [(k : Int)])] from hq) with rfl | rfl
                      · exact (List.mem_cons_of_mem _ (List.mem_cons_self))
                      · exact (List.mem_cons_self))
                    refine step_build1 rfl (.tmp 59) _ rfl rfl (hK _ _ ⟨SOF _ (h').low, 25, x50, x52, x54, x55, x56, x58, _, x61, rfl, by decide, Nat.succ.inj hn, by rfl, h'⟩)
                · refine ⟨[6, 11], by kernel_rfl, by simp, ?_⟩
                  intro i hi
                  have hi : i = 6 ∨ i = 11 := by simpa using hi
                  rcases hi with rfl | rfl
                  · refine wpOp_step rfl (fun K hK => ?_)
                    refine step_liv (τ := 52) (v := x52) (u := x54) (l := pts) (m := [t]) (L' := [(56, x56, [])]) hL 55 rfl (.tmp 52) (.tmp 54) rfl rfl rfl (List.mem_cons_self) (own_sl intLen (hL.own (54, x54, [t]) (List.mem_cons_of_mem _ (List.mem_cons_self))) (by simp)) (by simp; omega) ?_ ?_
                    · intro q hq
                      rcases mem1 hq with rfl
                      · exact ⟨(List.mem_cons_of_mem _ (List.mem_cons_of_mem _ (List.mem_cons_self))), (by decide : (56 : Nat) ≠ 52)⟩
                    · intro v' x' h0
                      have h' : Liv wd x' (wLiv pts rt t k x50 x52 x54 v' x56 x58 x60 x61 24) := h0.sub (by
                        intro q hq
                        rcases mem2 (show q ∈ [(55, v', (pts ++ [t])), (56, x56, [])] from hq) with rfl | rfl
                        · exact (List.mem_cons_self)
                        · exact (List.mem_cons_of_mem _ (List.mem_cons_self)))
                      exact hK _ _ ⟨SOF _ (h').low, 24, x50, x52, x54, v', x56, x58, x60, x61, rfl, by decide, Nat.succ.inj hn, by rfl, h'⟩
                  · refine wpOp_step rfl (fun K hK => ?_)
                    have h' : Liv wd _ (wLiv pts rt t k x50 x52 x54 x55 x56 x58 (.slice (some ⟨x.heap.size, 0, none⟩) 1 1) x61 26) := (hL.build 60 [(k : Int)] (by simp)).sub (L' := wLiv pts rt t k x50 x52 x54 x55 x56 x58 (.slice (some ⟨x.heap.size, 0, none⟩) 1 1) x61 26) (by
                      intro q hq
                      rcases mem4 (show q ∈ [(52, x52, pts), (54, x54, [t]), (56, x56, []), (60, .slice (some ⟨x.heap.size, 0, none⟩) 1 1, [(k : Int)])] from hq) with rfl | rfl | rfl | rfl
                      · exact (List.mem_cons_of_mem _ (List.mem_cons_self))
                      · exact (List.mem_cons_of_mem _ (List.mem_cons_of_mem _ (List.mem_cons_self)))
                      · exact (List.mem_cons_of_mem _ (List.mem_cons_of_mem _ (List.mem_cons_of_mem _ (List.mem_cons_self))))
                      · exact (List.mem_cons_self))
                    refine step_build1 rfl (.tmp 59) _ rfl rfl (hK _ _ ⟨SOF _ (h').low, 26, x50, x52, x54, x55, x56, x58, _, x61, rfl, by decide, Nat.succ.inj hn, by rfl, h'⟩)
                · refine ⟨[6, 7], by kernel_rfl, by simp, ?_⟩
                  intro i hi
                  have hi : i = 6 ∨ i = 7 := by simpa using hi
                  rcases hi with rfl | rfl
                  · refine wpOp_step rfl (fun K hK => ?_)
                    refine step_liv (τ := 52) (v := x52) (u := x54) (l := pts) (m := [t]) (L' := [(60, x60, [(k : Int)])]) hL 55 rfl (.tmp 52) (.tmp 54) rfl rfl rfl (List.mem_cons_self) (own_sl intLen (hL.own (54, x54, [t]) (List.mem_cons_of_mem _ (List.mem_cons_self))) (by simp)) (by simp; omega) ?_ ?_
                    · intro q hq
                      rcases mem1 hq with rfl
                      · exact ⟨(List.mem_cons_of_mem _ (List.mem_cons_of_mem _ (List.mem_cons_self))), (by decide : (60 : Nat) ≠ 52)⟩
                    · intro v' x' h0
                      have h' : Liv wd x' (wLiv pts rt t k x50 x52 x54 v' x56 x58 x60 x61 25) := h0.sub (by
                        intro q hq
                        rcases mem2 (show q ∈ [(55, v', (pts ++ [t])), (60, x60, [(k : Int)])] from hq) with rfl | rfl
                        · exact (List.mem_cons_self)
                        · exact (List.mem_cons_of_mem _ (List.mem_cons_self)))
                      exact hK _ _ ⟨SOF _ (h').low, 25, x50, x52, x54, v', x56, x58, x60, x61, rfl, by decide, Nat.succ.inj hn, by rfl, h'⟩
                  · refine wpOp_step rfl (fun K hK => ?_)
                    have h' : Liv wd _ (wLiv pts rt t k x50 x52 x54 x55 (.slice (some ⟨x.heap.size, 0, none⟩) 0 0) x58 x60 x61 26) := (hL.build 56 [] (by simp)).sub (L' := wLiv pts rt t k x50 x52 x54 x55 (.slice (some ⟨x.heap.size, 0, none⟩) 0 0) x58 x60 x61 26) (by
                      intro q hq
                      rcases mem4 (show q ∈ [(52, x52, pts), (54, x54, [t]), (56, .slice (some ⟨x.heap.size, 0, none⟩) 0 0, []), (60, x60, [(k : Int)])] from hq) with rfl | rfl | rfl | rfl
                      · exact (List.mem_cons_of_mem _ (List.mem_cons_self))
                      · exact (List.mem_cons_of_mem _ (List.mem_cons_of_mem _ (List.mem_cons_self)))
                      · exact (List.mem_cons_self)
                      · exact (List.mem_cons_of_mem _ (List.mem_cons_of_mem _ (List.mem_cons_of_mem _ (List.mem_cons_self)))))
                    refine step_build0 rfl rfl (hK _ _ ⟨SOF _ (h').low, 26, x50, x52, x54, x55, _, x58, x60, x61, rfl, by decide, Nat.succ.inj hn, by rfl, h'⟩)
                · refine ⟨[5], by kernel_rfl, by simp, ?_⟩
                  intro i hi
                  obtain rfl : i = 5 := by simpa using hi
                  · refine wpOp_step rfl (fun K hK => ?_)
                    have h' : Liv wd _ (wLiv pts rt t k x50 x52 (.slice (some ⟨x.heap.size, 0, none⟩) 1 1) x55 x56 x58 x60 x61 26) := (hL.build 54 [t] (by simp)).sub (L' := wLiv pts rt t k x50 x52 (.slice (some ⟨x.heap.size, 0, none⟩) 1 1) x55 x56 x58 x60 x61 26) (by
                      intro q hq
                      rcases mem4 (show q ∈ [(52, x52, pts), (54, .slice (some ⟨x.heap.size, 0, none⟩) 1 1, [t]), (56, x56, []), (60, x60, [(k : Int)])] from hq) with rfl | rfl | rfl | rfl
                      · exact (List.mem_cons_of_mem _ (List.mem_cons_self))
                      · exact (List.mem_cons_self)
                      · exact (List.mem_cons_of_mem _ (List.mem_cons_of_mem _ (List.mem_cons_self)))
                      · exact (List.mem_cons_of_mem _ (List.mem_cons_of_mem _ (List.mem_cons_of_mem _ (List.mem_cons_self)))))
                    refine step_build1 rfl (.tmp 53) _ rfl rfl (hK _ _ ⟨SOF _ (h').low, 26, x50, x52, _, x55, x56, x58, x60, x61, rfl, by decide, Nat.succ.inj hn, by rfl, h'⟩)
                · refine ⟨[3], by kernel_rfl, by simp, ?_⟩
                  intro i hi
                  obtain rfl : i = 3 := by simpa using hi
                  · refine wpOp_step rfl (fun K hK => ?_)
                    refine step_liv (τ := 50) (v := x50) (u := Value.slice (some ⟨g, oo, none⟩) pts.length cp) (l := []) (m := pts) (L' := [(54, x54, [t]), (56, x56, []), (60, x60, [(k : Int)])]) hL 52 rfl (.tmp 50) (.tmp 51) rfl rfl rfl (List.mem_cons_self) (SlOf.below HPD.out hL.low) (by simp; omega) ?_ ?_
                    · intro q hq
                      rcases mem3 hq with rfl | rfl | rfl
                      · exact ⟨(List.mem_cons_of_mem _ (List.mem_cons_self)), (by decide : (54 : Nat) ≠ 50)⟩
                      · exact ⟨(List.mem_cons_of_mem _ (List.mem_cons_of_mem _ (List.mem_cons_self))), (by decide : (56 : Nat) ≠ 50)⟩
                      · exact ⟨(List.mem_cons_of_mem _ (List.mem_cons_of_mem _ (List.mem_cons_of_mem _ (List.mem_cons_self)))), (by decide : (60 : Nat) ≠ 50)⟩
                    · intro v' x' h0
                      have h' : Liv wd x' (wLiv pts rt t k x50 v' x54 x55 x56 x58 x60 x61 26) := h0.sub (by
                        intro q hq
                        rcases mem4 (show q ∈ [(52, v', pts), (54, x54, [t]), (56, x56, []), (60, x60, [(k : Int)])] from hq) with rfl | rfl | rfl | rfl
                        · exact (List.mem_cons_self)
                        · exact (List.mem_cons_of_mem _ (List.mem_cons_self))
                        · exact (List.mem_cons_of_mem _ (List.mem_cons_of_mem _ (List.mem_cons_self)))
                        · exact (List.mem_cons_of_mem _ (List.mem_cons_of_mem _ (List.mem_cons_of_mem _ (List.mem_cons_self)))))
                      exact hK _ _ ⟨SOF _ (h').low, 26, x50, v', x54, x55, x56, x58, x60, x61, rfl, by decide, Nat.succ.inj hn, by rfl, h'⟩
                · refine ⟨[9, 11], by kernel_rfl, by simp, ?_⟩
                  intro i hi
                  have hi : i = 9 ∨ i = 11 := by simpa using hi
                  rcases hi with rfl | rfl
                  · refine wpOp_step rfl (fun K hK => ?_)
                    refine step_liv (τ := 56) (v := x56) (u := Value.slice R rt.length cr) (l := []) (m := rt) (L' := [(55, x55, (pts ++ [t]))]) hL 58 rfl (.tmp 56) (.tmp 57) rfl rfl rfl (List.mem_cons_of_mem _ (List.mem_cons_self)) (SlOf.below HRD.out hL.low) (by simp; omega) ?_ ?_
                    · intro q hq
                      rcases mem1 hq with rfl
                      · exact ⟨(List.mem_cons_self), (by decide : (55 : Nat) ≠ 56)⟩
                    · intro v' x' h0
                      have h' : Liv wd x' (wLiv pts rt t k x50 x52 x54 x55 x56 v' x60 x61 27) := h0.sub (by
                        intro q hq
                        rcases mem2 (show q ∈ [(55, x55, (pts ++ [t])), (58, v', rt)] from hq) with rfl | rfl
                        · exact (List.mem_cons_of_mem _ (List.mem_cons_self))
                        · exact (List.mem_cons_self))
                      exact hK _ _ ⟨SOF _ (h').low, 27, x50, x52, x54, x55, x56, v', x60, x61, rfl, by decide, Nat.succ.inj hn, by rfl, h'⟩
                  · refine wpOp_step rfl (fun K hK => ?_)
                    have h' : Liv wd _ (wLiv pts rt t k x50 x52 x54 x55 x56 x58 (.slice (some ⟨x.heap.size, 0, none⟩) 1 1) x61 28) := (hL.build 60 [(k : Int)] (by simp)).sub (L' := wLiv pts rt t k x50 x52 x54 x55 x56 x58 (.slice (some ⟨x.heap.size, 0, none⟩) 1 1) x61 28) (by
                      intro q hq
                      rcases mem3 (show q ∈ [(55, x55, (pts ++ [t])), (56, x56, []), (60, .slice (some ⟨x.heap.size, 0, none⟩) 1 1, [(k : Int)])] from hq) with rfl | rfl | rfl
                      · exact (List.mem_cons_of_mem _ (List.mem_cons_self))
                      · exact (List.mem_cons_of_mem _ (List.mem_cons_of_mem _ (List.mem_cons_self)))
                      · exact (List.mem_cons_self))
                    refine step_build1 rfl (.tmp 59) _ rfl rfl (hK _ _ ⟨SOF _ (h').low, 28, x50, x52, x54, x55, x56, x58, _, x61, rfl, by decide, Nat.succ.inj hn, by rfl, h'⟩)
                · refine ⟨[7], by kernel_rfl, by simp, ?_⟩
                  intro i hi
                  obtain rfl : i = 7 := by simpa using hi
                  · refine wpOp_step rfl (fun K hK => ?_)
                    have h' : Liv wd _ (wLiv pts rt t k x50 x52 x54 x55 (.slice (some ⟨x.heap.size, 0, none⟩) 0 0) x58 x60 x61 28) := (hL.build 56 [] (by simp)).sub (L' := wLiv pts rt t k x50 x52 x54 x55 (.slice (some ⟨x.heap.size, 0, none⟩) 0 0) x58 x60 x61 28) (by
                      intro q hq
                      rcases mem3 (show q ∈ [(55, x55, (pts ++ [t])), (56, .slice (some ⟨x.heap.size, 0, none⟩) 0 0, []), (60, x60, [(k : Int)])] from hq) with rfl | rfl | rfl
                      · exact (List.mem_cons_of_mem _ (List.mem_cons_self))
                      · exact (List.mem_cons_self)
                      · exact (List.mem_cons_of_mem _ (List.mem_cons_of_mem _ (List.mem_cons_self))))
                    refine step_build0 rfl rfl (hK _ _ ⟨SOF _ (h').low, 28, x50, x52, x54, x55, _, x58, x60, x61, rfl, by decide, Nat.succ.inj hn, by rfl, h'⟩)
                · refine ⟨[6], by kernel_rfl, by simp, ?_⟩
                  intro i hi
                  obtain rfl : i = 6 := by simpa using hi
                  · refine wpOp_step rfl (fun K hK => ?_)
                    refine step_liv (τ := 52) (v := x52) (u := x54) (l := pts) (m := [t]) (L' := [(56, x56, []), (60, x60, [(k : Int)])]) hL 55 rfl (.tmp 52) (.tmp 54) rfl rfl rfl (List.mem_cons_self) (own_sl intLen (hL.own (54, x54, [t]) (List.mem_cons_of_mem _ (List.mem_cons_self))) (by simp)) (by simp; omega) ?_ ?_
                    · intro q hq
                      rcases mem2 hq with rfl | rfl
                      · exact ⟨(List.mem_cons_of_mem _ (List.mem_cons_of_mem _ (List.mem_cons_self))), (by decide : (56 : Nat) ≠ 52)⟩
                      · exact ⟨(List.mem_cons_of_mem _ (List.mem_cons_of_mem _ (List.mem_cons_of_mem _ (List.mem_cons_self)))), (by decide : (60 : Nat) ≠ 52)⟩
                    · intro v' x' h0
                      have h' : Liv wd x' (wLiv pts rt t k x50 x52 x54 v' x56 x58 x60 x61 28) := h0.sub (by
                        intro q hq
                        rcases mem3 (show q ∈ [(55, v', (pts ++ [t])), (56, x56, []), (60, x60, [(k : Int)])] from hq) with rfl | rfl | rfl
                        · exact (List.mem_cons_self)
                        · exact (List.mem_cons_of_mem _ (List.mem_cons_self))
                        · exact (List.mem_cons_of_mem _ (List.mem_cons_of_mem _ (List.mem_cons_self))))
                      exact hK _ _ ⟨SOF _ (h').low, 28, x50, x52, x54, v', x56, x58, x60, x61, rfl, by decide, Nat.succ.inj hn, by rfl, h'⟩
                · refine ⟨[11], by kernel_rfl, by simp, ?_⟩
                  intro i hi
                  obtain rfl : i = 11 := by simpa using hi
                  · refine wpOp_step rfl (fun K hK => ?_)
                    have h' : Liv wd _ (wLiv pts rt t k x50 x52 x54 x55 x56 x58 (.slice (some ⟨x.heap.size, 0, none⟩) 1 1) x61 29) := (hL.build 60 [(k : Int)] (by simp)).sub (L' := wLiv pts rt t k x50 x52 x54 x55 x56 x58 (.slice (some ⟨x.heap.size, 0, none⟩) 1 1) x61 29) (by
                      intro q hq
                      rcases mem3 (show q ∈ [(55, x55, (pts ++ [t])), (58, x58, rt), (60, .slice (some ⟨x.heap.size, 0, none⟩) 1 1, [(k : Int)])] from hq) with rfl | rfl | rfl
                      · exact (List.mem_cons_of_mem _ (List.mem_cons_self))
                      · exact (List.mem_cons_of_mem _ (List.mem_cons_of_mem _ (List.mem_cons_self)))
                      · exact (List.mem_cons_self))
                    refine step_build1 rfl (.tmp 59) _ rfl rfl (hK _ _ ⟨SOF _ (h').low, 29, x50, x52, x54, x55, x56, x58, _, x61, rfl, by decide, Nat.succ.inj hn, by rfl, h'⟩)
                · refine ⟨[9], by kernel_rfl, by simp, ?_⟩
                  intro i hi
                  obtain rfl : i = 9 := by simpa using hi
                  · refine wpOp_step rfl (fun K hK => ?_)
                    refine step_liv (τ := 56) (v := x56) (u := Value.slice R rt.length cr) (l := []) (m := rt) (L' := [(55, x55, (pts ++ [t])), (60, x60, [(k : Int)])]) hL 58 rfl (.tmp 56) (.tmp 57) rfl rfl rfl (List.mem_cons_of_mem _ (List.mem_cons_self)) (SlOf.below HRD.out hL.low) (by simp; omega) ?_ ?_
                    · intro q hq
                      rcases mem2 hq with rfl | rfl
                      · exact ⟨(List.mem_cons_self), (by decide : (55 : Nat) ≠ 56)⟩
                      · exact ⟨(List.mem_cons_of_mem _ (List.mem_cons_of_mem _ (List.mem_cons_self))), (by decide : (60 : Nat) ≠ 56)⟩
                    · intro v' x' h0
                      have h' : Liv wd x' (wLiv pts rt t k x50 x52 x54 x55 x56 v' x60 x61 29) := h0.sub (by
                        intro q hq
                        rcases mem3 (show q ∈ [(55, x55, (pts ++ [t])), (58, v', rt), (60, x60, [(k : Int)])] from hq) with rfl | rfl | rfl
                        · exact (List.mem_cons_of_mem _ (List.mem_cons_self))
                        · exact (List.mem_cons_self)
                        · exact (List.mem_cons_of_mem _ (List.mem_cons_of_mem _ (List.mem_cons_self))))
                      exact hK _ _ ⟨SOF _ (h').low, 29, x50, x52, x54, x55, x56, v', x60, x61, rfl, by decide, Nat.succ.inj hn, by rfl, h'⟩
                · refine ⟨[12], by kernel_rfl, by simp, ?_⟩
                  intro i hi
                  obtain rfl : i = 12 := by simpa using hi
                  · refine wpOp_step rfl (fun K hK => ?_)
                    refine step_liv (τ := 58) (v := x58) (u := x60) (l := rt) (m := [(k : Int)]) (L' := [(55, x55, (pts ++ [t]))]) hL 61 rfl (.tmp 58) (.tmp 60) rfl rfl rfl (List.mem_cons_of_mem _ (List.mem_cons_self)) (own_sl intLen (hL.own (60, x60, [(k : Int)]) (List.mem_cons_of_mem _ (List.mem_cons_of_mem _ (List.mem_cons_self)))) (by simp)) (by simp; omega) ?_ ?_
                    · intro q hq
                      rcases mem1 hq with rfl
                      · exact ⟨(List.mem_cons_self), (by decide : (55 : Nat) ≠ 58)⟩
                    · intro v' x' h0
                      have h' : Liv wd x' (wLiv pts rt t k x50 x52 x54 x55 x56 x58 x60 v' 30) := h0.sub (by
                        intro q hq
                        rcases mem2 (show q ∈ [(55, x55, (pts ++ [t])), (61, v', (rt ++ [(k : Int)]))] from hq) with rfl | rfl
                        · exact (List.mem_cons_of_mem _ (List.mem_cons_self))
                        · exact (List.mem_cons_self))
                      exact hK _ _ ⟨SOF _ (h').low, 30, x50, x52, x54, x55, x56, x58, x60, v', rfl, by decide, Nat.succ.inj hn, by rfl, h'⟩
                · cases hn
theorem specWalk (d : ChartD) (hd : chartB d = true) (to : Int) : ∀ f : Nat, WalkAt d to f := by
  intro f
  induction f with
  | zero => exact walkStep d hd to 0 (fun f' e => by cases e)
  | succ f ih => exact walkStep d hd to (f + 1) (fun f' e => by cases e; exact ih)
end Go.Proofs.Ytcofldhjbidjjaa
