
/- What ExactRivalDuties and Dilworth and CoversLaw rests on, part 15: contracts and mathematics. -/
import Derived.Test.YtfofbnpgjdagkaaCv14
import Derived.Test.YtfofbnpgjdagkaaCv7
import Derived.Test.YtfofbnpgjdagkaaCv2
namespace Go.Proofs.Ytfofbnpgjdagkaa
open Go.RowKit
set_option maxRecDepth 100000
theorem setL_yes {i b : Nat} (h : b / 2 ^ i % 2 = 1) : setL (i + 1) b = setL i b ++ [i] := by unfold setL; rw [List.range_succ, List.filter_append]; simp [h]
theorem setL_no {i b : Nat} (h : ¬ b / 2 ^ i % 2 = 1) : setL (i + 1) b = setL i b := by unfold setL; rw [List.range_succ, List.filter_append]; simp [h]
theorem setL_len (i b : Nat) : (setL i b).length ≤ i := by
  unfold setL
  have := List.length_filter_le (fun j => b / 2 ^ j % 2 == 1) (List.range i)
  rwa [List.length_range] at this
theorem rivalD_bad {p : Int} {mv : List Int} {l : List DutyD} (h : ¬ (dutiesB l = true ∧ tableB p mv = true)) : rivalD p mv l = [] := if_neg h
theorem rivalD_ok {p : Int} {mv : List Int} {l : List DutyD} (h1 : dutiesB l = true) (h2 : tableB p mv = true) : rivalD p mv l = castL (rivalTo (bothAt p mv l) l.length (2 ^ l.length)) := if_pos ⟨h1, h2⟩
theorem rivalTo_keep {B : Nat → Nat → Bool} {m b : Nat} (h : keepB B (rivalTo B m b) (setL m b) = true) : rivalTo B m (b + 1) = rivalTo B m b := by rw [rivalTo_next]; exact if_pos h
theorem rivalTo_take {B : Nat → Nat → Bool} {m b : Nat} (h : keepB B (rivalTo B m b) (setL m b) = false) : rivalTo B m (b + 1) = setL m b := by rw [rivalTo_next]; exact if_neg (by rw [h]; simp)
theorem rivalTo_len (B : Nat → Nat → Bool) (m n : Nat) : (rivalTo B m n).length ≤ m := by
  induction n with
  | zero => exact Nat.zero_le _
  | succ n ih =>
    rw [rivalTo_next]
    unfold stepV
    split
    · exact ih
    · exact setL_len m n
theorem rivalD_len (p : Int) (mv : List Int) (l : List DutyD) : (rivalD p mv l).length ≤ 12 := by
  unfold rivalD
  split
  · rename_i h
    rw [castL_len]
    exact Nat.le_trans (rivalTo_len _ _ _) (dutiesB_all h.1).1
  · exact Nat.zero_le _
theorem keepB_parts {B : Nat → Nat → Bool} {best s : List Nat} {c1 c2 lt rv : Bool} (h1 : decide (s.length < best.length) = c1) (h2 : (s.length == best.length) = c2) (h3 : c2 = true → lessL s best = lt) (h4 : rivalsB B s = rv) : keepB B best s = (c1 || (c2 && !lt) || !rv) := by
  unfold keepB
  rw [h1, h2, h4]
  cases c2 with
  | true => rw [h3 rfl]
  | false => rfl
set_option maxHeartbeats 32000000 in
theorem specRivalDuties (p : Int) (ymv : Value) (mv : List Int) (yl : Value) (l : List DutyD) (w : World) (rmv : SlInt w ymv mv) (rl : SlDuty w yl l) :
    Calls Try.prog 35 #[.int .i64 p, ymv, yl] w (NewInt (rivalD p mv l) w) := by
  have Rmv := Lib.hid rmv
  have HS := Lib.hid rl
  have hll := rl.1
  obtain ⟨A0, c0, rfl⟩ := SlOf.form rmv
  obtain ⟨A1, c1, rfl⟩ := SlOf.form rl
  obtain ⟨nm, hnm⟩ : ∃ n, mv.length = n := ⟨_, rfl⟩
  obtain ⟨m, hm⟩ : ∃ n, l.length = n := ⟨_, rfl⟩
  have HM := Lib.hid hm
  rw [hnm] at Rmv
  rw [hm] at hll HS
  rw [hnm, hm]
  clear rmv rl hnm hm
  obtain ⟨b1, hb1⟩ : ∃ b, dutiesB l = b := ⟨_, rfl⟩
  have H1 := Lib.hid hb1
  obtain ⟨b2, hb2⟩ : ∃ b, tableB p mv = b := ⟨_, rfl⟩
  have H2 := Lib.hid hb2
  clear hb1 hb2
  go_enter Try.func35, Try.ntmps35
  go_wp2_with fail
  refine (specDutiesOk _ l _ HS.out).mono ?_
  rw [H1.out]
  rintro e w1 ⟨rfl, hb1⟩
  have B1 := Lib.hid hb1
  clear hb1
  cases b1 with
  | false =>
    have E := Lib.hid (rivalD_bad (p := p) (mv := mv) (l := l) (by rw [H1.out]; simp))
    go_wp2
    go_ret
    exact ⟨_, rfl, by rw [E.out]; exact World.ownsRow_nil _ _ _ _, B1.out⟩
  | true =>
  go_wp2_with fail
  refine (specTable p _ mv _ (Rmv.out.below B1.out)).mono ?_
  rw [H2.out]
  rintro e w2 ⟨rfl, hb2⟩
  have B2 := Lib.hid (B1.out.trans (hb2.mono B1.out.size))
  clear hb2
  cases b2 with
  | false =>
    have E := Lib.hid (rivalD_bad (p := p) (mv := mv) (l := l) (by rw [H2.out]; simp))
    go_wp2
    go_ret
    exact ⟨_, rfl, by rw [E.out]; exact World.ownsRow_nil _ _ _ _, B2.out⟩
  | true =>
  have h12 : m ≤ 12 := by have := (dutiesB_all H1.out).1; have := HM.out; omega
  go_wp2_with fail
  refine (specBoth p _ mv _ l _ (Rmv.out.below B2.out) (HS.out.below B2.out) (by rw [HM.out]; exact h12)).mono ?_
  rintro e w3 ⟨vb, rs, rfl, hrb, hrs, hb3⟩
  have B3 := Lib.hid (B2.out.trans (hb3.mono B2.out.size))
  have HRB := Lib.hid hrb
  have HRS := Lib.hid hrs
  obtain ⟨A3, c3, rfl⟩ := hrb.form
  obtain ⟨nr, hnr⟩ : ∃ n, rs.length = n := ⟨_, rfl⟩
  rw [hnr] at HRB ⊢
  clear hrb hrs hb3 hnr
  obtain ⟨T, hT⟩ : ∃ T, 2 ^ m = T := ⟨_, rfl⟩
  have hT2 : T ≤ 4096 := by rw [← hT]; exact Nat.pow_le_pow_right (by omega) h12
  have hT1 : 0 < T := by rw [← hT]; exact Nat.two_pow_pos m
  have E0 := Lib.hid (show rivalD p mv l = castL (rivalTo (bothAt p mv l) m T) by rw [rivalD_ok H1.out H2.out, HM.out, hT])
  have HT := Lib.hid hT
  have hTi : IntKind.i64.wrap ((2 : Int) ^ m) = (T : Int) := by rw [show ((2 : Int) ^ m) = (T : Int) by rw [← HT.out]; simp, IntKind.wrap_i64]; omega
  have hmi : (m : Int) ≤ 64 := by omega
  have L0 := Liv.build (Liv.nil w3) 0 [] (by simp)
  have O0 := Lib.hid (show OwnInt (w3.alloc (.cells #[] 3)) w.heap.size (.slice (some ⟨w3.heap.size, 0, none⟩) 0 0) (castL (rivalTo (bothAt p mv l) m 0)) from own_lo (L0.own _ List.mem_cons_self) B3.out.size)
  have BL0 := Lib.hid (show Below w3.heap.size w3 (w3.alloc (.cells #[] 3)) from L0.low)
  clear L0 hT
  go_wp2
  go_loopw [8, 9] (fun q t wr => ∃ (b : Nat) (v : Value), b ≤ T ∧ t = .int .i64 (b : Int) ∧ q = v ∧ Hid (OwnInt wr w.heap.size v (castL (rivalTo (bothAt p mv l) m b))) ∧ Hid (Below w3.heap.size w3 wr)) (fun _ t _ => T - (intOf t).toNat)
  case atStart => exact ⟨0, _, Nat.zero_le _, rfl, rfl, O0, BL0⟩
  case round =>
    obtain ⟨b, v, hbT, rfl, rfl, hO, hb⟩ := hrel
    obtain ⟨wo, rfl⟩ : ∃ W, W = wr := ⟨_, rfl⟩
    have BR := Lib.hid (B3.out.trans (hb.out.mono B3.out.size))
    obtain ⟨A8, c8, e8⟩ := own_form hO.out
    rw [castL_len] at e8
    have hbl := rivalTo_len (bothAt p mv l) m b
    obtain ⟨lb, hlb⟩ : ∃ n, (rivalTo (bothAt p mv l) m b).length = n := ⟨_, rfl⟩
    have HLB := Lib.hid hlb
    rw [hlb] at e8 hbl
    subst e8
    clear hlb
    by_cases hlt : b < T
    rotate_left
    · obtain rfl : b = T := by omega
      go_wp2
      go_ret
      exact ⟨_, rfl, by rw [E0.out]; exact hO.out, BR.out⟩
    have hgb : decide (b < T) = true := decide_eq_true hlt
    have L1 := Lib.hid (show Liv wo (wo.alloc (.cells #[] 3)) [(0, .slice (some ⟨wo.heap.size, 0, none⟩) 0 0, castL (setL 0 b))] from Liv.build (Liv.nil wo) 0 [] (by simp))
    go_wp2
    go_loopw [10, 36] (fun q t wx => ∃ (i : Nat) (u : Value), i ≤ m ∧ t = .int .i64 (i : Int) ∧ q = u ∧ Hid (Liv wo wx [(0, u, castL (setL i b))])) (fun _ t _ => m - (intOf t).toNat)
    case atStart => exact ⟨0, _, Nat.zero_le _, rfl, rfl, L1⟩
    case round =>
      obtain ⟨i, u, hi, rfl, rfl, hL⟩ := hrel
      have hsl := setL_len i b
      have HSL := Lib.hid (show (castL (setL i b)).length ≤ 12 by rw [castL_len]; omega)
      clear hsl
      by_cases him : i < m
      · have hkb : (i : Int) ≤ 64 := by omega
        have hbit := bit_atL b i (by omega)
        obtain ⟨t, ht⟩ : ∃ t, decide (b / 2 ^ i % 2 = 1) = t := ⟨_, rfl⟩
        rw [ht] at hbit
        have HT3 := Lib.hid ht
        clear ht
        cases t with
        | false =>
          have E := Lib.hid (setL_no (of_decide_eq_false HT3.out))
          go_wp2
          go_roundw
          case rel => exact ⟨i + 1, _, by omega, by go_num, rfl, by rw [E.out]; exact hL⟩
          case measure => simp [intOf]; omega
        | true =>
          have E := Lib.hid (show castL (setL (i + 1) b) = castL (setL i b) ++ [(i : Int)] by rw [setL_yes (of_decide_eq_true HT3.out), castL_snoc])
          have L2 := Lib.hid (show Liv wo (wr.alloc (.cells #[.int .i64 (i : Int)] 3)) ((1, .slice (some ⟨wr.heap.size, 0, none⟩) 1 1, [(i : Int)]) :: [(0, u10, castL (setL i b))]) from Liv.build hL.out 1 [(i : Int)] (by simp))
          go_wp2_with (at_builtin; refine wpList_plain rfl fun K hK => wp_of_step (ops := #[]) rfl (step_liv L2.out (L' := []) (τ := 0) (v := u10) (u := .slice (some ⟨wr.heap.size, 0, none⟩) 1 1) (l := castL (setL i b)) (m := [(i : Int)]) 0 rfl (.tmp 44) (.tmp 46) rfl rfl rfl (List.mem_cons_of_mem _ List.mem_cons_self) (own_sl intLen (L2.out.own _ List.mem_cons_self) (by simp)) (by have := HSL.out; simp; omega) (fun q hq => by cases hq) ?_); intro v5 x5 hl5; refine hK _ _ ?_; have L5 := Lib.hid hl5; clear hl5)
          go_roundw
          case rel => exact ⟨i + 1, _, by omega, by go_num, rfl, by rw [E.out]; exact L5⟩
          case measure => simp [intOf]; omega
      obtain rfl : i = m := by omega
      have HO10 := Lib.hid (hL.out.own _ List.mem_cons_self)
      obtain ⟨Au, cu, eu⟩ := own_form HO10.out
      simp only [castL_len] at eu
      obtain ⟨ls, hls⟩ : ∃ n, (setL i b).length = n := ⟨_, rfl⟩
      have HLS := Lib.hid hls
      have hls12 : ls ≤ 12 := by have := HSL.out; rw [castL_len, hls] at this; exact this
      rw [hls] at eu
      subst eu
      have BX := Lib.hid (hb.out.trans (hL.out.low.mono hb.out.size))
      have SS := Lib.hid (show SlInt wr (.slice Au ls cu) (castL (setL i b)) from own_sl intLen HO10.out (by have := HSL.out; show (castL (setL i b)).length ≤ _; omega))
      have OB := Lib.hid (own_below hO.out hL.out.low)
      have SB := Lib.hid (show SlInt wr (.slice A8 lb c8) (castL (rivalTo (bothAt p mv l) i b)) from own_sl intLen OB.out (by rw [castL_len, HLB.out]; omega))
      have OS := Lib.hid (own_lo HO10.out BR.out.size)
      clear hls
      obtain ⟨c1', hc1⟩ : ∃ x, decide (ls < lb) = x := ⟨_, rfl⟩
      have hc1i : decide ((ls : Int) < (lb : Int)) = c1' := by rw [← hc1]; exact decide_eq_decide.2 (by omega)
      obtain ⟨c2', hc2⟩ : ∃ x, (ls == lb) = x := ⟨_, rfl⟩
      have hc2i : ((ls : Int) == (lb : Int)) = c2' := by rw [← hc2]; by_cases h : ls = lb; · subst h; simp
                                                         · rw [show (ls == lb) = false by simpa using h]; simp; omega
      obtain ⟨lt, hlt'⟩ : ∃ x, lessL (setL i b) (rivalTo (bothAt p mv l) i b) = x := ⟨_, rfl⟩
      obtain ⟨rv, hrv⟩ : ∃ x, rivalsB (bothAt p mv l) (setL i b) = x := ⟨_, rfl⟩
      have HLE := Lib.hid hlt'
      have HRV := Lib.hid hrv
      have HC2 := Lib.hid hc2
      have EK := Lib.hid (keepB_parts (B := bothAt p mv l) (best := rivalTo (bothAt p mv l) i b) (s := setL i b) (c1 := c1') (c2 := c2') (lt := lt) (rv := rv) (by rw [HLS.out, HLB.out]; exact hc1) (by rw [HLS.out, HLB.out]; exact hc2) (fun _ => hlt') hrv)
      have CR := Lib.hid (specRivals p mv l (.slice A3 nr c3) rs HRS.out (.slice Au ls cu) (setL i b) wr (HRB.out.below BX.out) SS.out (fun x hx => by rw [HM.out]; exact setL_lt x hx))
      have CL := Lib.hid (fun (h : ls = lb) => specLess (.slice Au ls cu) (.slice A8 lb c8) (setL i b) (rivalTo (bothAt p mv l) i b) wr SS.out SB.out (by rw [HLS.out, HLB.out]; exact h))
      clear hlt' hrv hc2
      have FIN := Lib.hid (show True from trivial)
      cases c1' with
      | true =>
        have E := Lib.hid (rivalTo_keep (EK.out.trans (by simp)))
        go_wp2
        go_roundw
        case rel => exact ⟨b + 1, _, by omega, by go_num, rfl, by rw [E.out]; exact OB, BX⟩
        case measure => simp [intOf]; omega
      | false =>
        cases c2' with
        | true =>
          have hll2 : ls = lb := by simpa using HC2.out
          have CL2 := Lib.hid (CL.out hll2)
          clear hll2
          go_wp2_with fail
          refine CL2.out.mono ?_
          rw [HLE.out]
          rintro e w6 ⟨rfl, rfl⟩
          cases lt with
          | false =>
            have E := Lib.hid (rivalTo_keep (EK.out.trans (by simp)))
            go_wp2
            go_roundw
            case rel => exact ⟨b + 1, _, by omega, by go_num, rfl, by rw [E.out]; exact OB, BX⟩
            case measure => simp [intOf]; omega
          | true =>
            go_wp2_with fail
            refine CR.out.mono ?_
            rw [HRV.out]
            rintro e w7 ⟨rfl, rfl⟩
            cases rv with
            | false =>
              have E := Lib.hid (rivalTo_keep (EK.out.trans (by simp)))
              go_wp2
              go_roundw
              case rel => exact ⟨b + 1, _, by omega, by go_num, rfl, by rw [E.out]; exact OB, BX⟩
              case measure => simp [intOf]; omega
            | true =>
              have E := Lib.hid (rivalTo_take (EK.out.trans (by simp)))
              go_wp2
              go_roundw
              case rel => exact ⟨b + 1, _, by omega, by go_num, rfl, by rw [E.out]; exact OS, BX⟩
              case measure => simp [intOf]; omega
        | false =>
          go_wp2_with fail
          refine CR.out.mono ?_
          rw [HRV.out]
          rintro e w7 ⟨rfl, rfl⟩
          cases rv with
          | false =>
            have E := Lib.hid (rivalTo_keep (EK.out.trans (by simp)))
            go_wp2
            go_roundw
            case rel => exact ⟨b + 1, _, by omega, by go_num, rfl, by rw [E.out]; exact OB, BX⟩
            case measure => simp [intOf]; omega
          | true =>
            have E := Lib.hid (rivalTo_take (EK.out.trans (by simp)))
            go_wp2
            go_roundw
            case rel => exact ⟨b + 1, _, by omega, by go_num, rfl, by rw [E.out]; exact OS, BX⟩
            case measure => simp [intOf]; omega
end Go.Proofs.Ytfofbnpgjdagkaa
namespace Go.Proofs.Ytfofbnpgjdagkaa
open Go.RowKit
set_option maxRecDepth 100000
theorem castL_get (l : List Nat) (i : Nat) : (castL l)[i]? = (l[i]?).map (fun n : Nat => (n : Int)) := by unfold castL; rw [List.getElem?_map]
theorem takeB_cast (B : Nat → Nat → Bool) (pre : List Nat) (n : Nat) : takeB B (castL pre) (n : Int) = fitsP B pre n := by
  unfold takeB fitsP
  rw [castL_len]
  congr 1
  funext k
  rw [castL_get]
  congr 2
  cases h : pre[k]? with
  | none => rfl
  | some x =>
    show ((some (x : Int)) == some (n : Int)) = (some x == some n)
    simp only [Option.some_beq_some]
    rw [Bool.eq_iff_iff, beq_iff_eq, beq_iff_eq]
    omega
theorem any_cast (pre : List Nat) (n : Nat) : (castL pre).any (· == (n : Int)) = decide (n ∈ pre) := by
  rw [Bool.eq_iff_iff, List.any_eq_true, decide_eq_true_iff]
  constructor
  · rintro ⟨x, hx, e⟩
    unfold castL at hx
    obtain ⟨y, hy, rfl⟩ := List.mem_map.1 hx
    have e := beq_iff_eq.1 e
    have : y = n := by omega
    rw [← this]; exact hy
  · intro h
    exact ⟨(n : Int), by unfold castL; exact List.mem_map.2 ⟨n, h, rfl⟩, beq_self_eq_true _⟩
/-- One person is tried for the duty behind pre. -/
def tryF (B : Nat → Nat → Bool) (most k : Nat) (pre : List Nat) (n : Nat) : Option (List Nat) := if fitsP B pre n = true then searchR B most k (pre ++ [n]) else none
theorem search_succ (B : Nat → Nat → Bool) (most k : Nat) (pre : List Nat) : searchR B most (k + 1) pre = (List.range (min (usedP pre + 1) most)).findSome? (tryF B most k pre) := rfl
theorem find_none {f : Nat → Option (List Nat)} {q N : Nat} (h : ∀ n, n < q → f n = none) (hN : N ≤ q) : (List.range N).findSome? f = none := List.findSome?_eq_none_iff.2 fun n hn => h n (by have := List.mem_range.1 hn; omega)
theorem find_yes {f : Nat → Option (List Nat)} {q N : Nat} {out : List Nat} (h : ∀ n, n < q → f n = none) (hN : q < N) (hq : f q = some out) : (List.range N).findSome? f = some out := by
  rw [List.findSome?_eq_some_iff]
  refine ⟨List.range q, q, (List.range (N - q - 1)).map (fun i => q + (i + 1)), ?_, hq, fun n hn => h n (List.mem_range.1 hn)⟩
  have h1 : N = q + ((N - q - 1) + 1) := by omega
  rw [h1, List.range_add, List.range_succ_eq_map, List.map_cons, List.map_map]
  simp [Function.comp_def]
/-- The list in memory: pre, then anything. -/
def WhoS (m base : Nat) (v : Value) (pre : List Nat) (w : World) : Prop := ∃ cu : List Int, OwnInt w base v cu ∧ cu.length = m ∧ cu.take pre.length = castL pre
theorem WhoS.keep {m base : Nat} {v : Value} {pre : List Nat} {ex : Nat → Prop} {w w' : World} (h : WhoS m base v pre w) (hk : KeepX ex w w') (hv : ∀ g, v.ownBlock = some g → ¬ ex g) : WhoS m base v pre w' := by
  obtain ⟨cu, h1, h2, h3⟩ := h
  exact ⟨cu, own_keep h1 hk hv, h2, h3⟩
theorem WhoS.less {m base : Nat} {v : Value} {pre : List Nat} {x : Nat} {w : World} (h : WhoS m base v (pre ++ [x]) w) : WhoS m base v pre w := by
  obtain ⟨cu, h1, h2, h3⟩ := h
  refine ⟨cu, h1, h2, ?_⟩
  have := congrArg (List.take pre.length) h3
  rw [List.take_take, List.length_append, Nat.min_eq_left (by omega), castL_snoc, List.take_left' (castL_len pre)] at this
  exact this
theorem WhoS.sl {m base g c : Nat} {pre : List Nat} {w : World} (h : WhoS m base (.slice (some ⟨g, 0, none⟩) m c) pre w) (hm : m ≤ 12) (hp : pre.length ≤ m) : SlInt w (.slice (some ⟨g, 0, none⟩) pre.length c) (castL pre) := by
  obtain ⟨cu, h1, h2, h3⟩ := h
  have hs := h1.sl (by omega)
  rw [← h2] at hs
  have ht := SlOf.takeP (k := pre.length) hs (by omega)
  rw [h3] at ht
  exact ht
theorem WhoS.all {m base g c : Nat} {out : List Nat} {w : World} (h : WhoS m base (.slice (some ⟨g, 0, none⟩) m c) out w) (hp : out.length = m) : OwnInt w base (.slice (some ⟨g, 0, none⟩) m c) (castL out) := by
  obtain ⟨cu, h1, h2, h3⟩ := h
  rw [hp, List.take_of_length_le (by omega)] at h3
  rw [← h3]; exact h1
/-- A person is tried. -/
theorem WhoS.try {m base g c : Nat} {pre : List Nat} {w : World} (h : WhoS m base (.slice (some ⟨g, 0, none⟩) m c) pre w) (hp : pre.length < m) (q : Nat) :
    w.frozen? ⟨g, pre.length, none⟩ = false ∧ (∃ z, w.cell? ⟨g, pre.length, none⟩ = some (.int .i64 z)) ∧ WhoS m base (.slice (some ⟨g, 0, none⟩) m c) (pre ++ [q]) (w.setCell ⟨g, pre.length, none⟩ (.int .i64 (q : Int))) := by
  obtain ⟨cu, h1, h2, h3⟩ := h
  obtain ⟨x, hx⟩ : ∃ x, cu[pre.length]? = some x := ⟨_, List.getElem?_eq_getElem (by omega)⟩
  subst h2
  refine ⟨World.ownsRow.frozenAt h1 _, ⟨x, ?_⟩, cu.set pre.length (q : Int), ?_, by rw [List.length_set], ?_⟩
  · have := own_at intLen h1 rfl hx (j := 0) (u := .int .i64 x) rfl
    simpa using this
  · have := own_set (x' := (q : Int)) intLen h1 hx (j := 0) (u := .int .i64 (q : Int)) (by omega) rfl
    simp only [Nat.mul_one, Nat.add_zero, List.length_set] at this
    exact this
  · rw [List.length_append, List.length_cons, List.length_nil, castL_snoc, ← h3]
    rw [take_snoc' _ pre.length (q : Int) (List.getElem?_set_self hp), List.take_set_of_le (Nat.le_refl _)]
theorem keep_set {w : World} {g j : Nat} {u : Value} : KeepX (fun i => i = g) w (w.setCell ⟨g, j, none⟩ u) :=
  KeepX.mk rfl rfl rfl (by simp) (fun i _ hn => Below.heap_setCell w ⟨g, j, none⟩ u i hn)
/-- What coverFrom leaves. -/
def CovIn (R : Option (List Nat)) (m base g c : Nat) (pre : List Nat) (w : World) (e : Ending) (w' : World) : Prop :=
  e = .returned (.bool R.isSome) ∧ KeepX (fun i => i = g) w w' ∧ WhoS m base (.slice (some ⟨g, 0, none⟩) m c) pre w' ∧ ∀ out, R = some out → WhoS m base (.slice (some ⟨g, 0, none⟩) m c) out w' ∧ out.length = m
set_option maxHeartbeats 16000000 in
theorem coverFrom_any {B : Nat → Nat → Bool} (hB : ∀ i j, B i j = B j i) (b m most base g c : Nat) (hm12 : m ≤ 12) (hP : most ≤ 12) (hgb : b ≠ g) (hc : m ≤ c) : ∀ (k : Nat) (pre : List Nat) (q : Int) (w : World), PairAt w b m B → WhoS m base (.slice (some ⟨g, 0, none⟩) m c) pre w → q = (pre.length : Int) → pre.length + k = m → CovOk B most pre →
    Calls Try.prog 44 #[.map (some b), .slice (some ⟨g, 0, none⟩) m c, .int .i64 q, .int .i64 (most : Int)] w (CovIn (searchR B most k pre) m base g c pre w) := by
  intro k
  induction k with
  | zero =>
    intro pre q w hp hs hq hlen hok
    subst hq
    have HS := Lib.hid hs
    have hl : pre.length = m := by omega
    rw [hl]
    have HL := Lib.hid hl
    clear hp hs hlen hok hB hl
    have hmm : ((m : Int) == (m : Int)) = true := beq_self_eq_true _
    go_enter Try.func44, Try.ntmps44
    go_wp2
    go_ret
    exact ⟨rfl, KeepX.refl _ _, HS.out, fun out ho => by injection ho with ho; subst ho; exact ⟨HS.out, HL.out⟩⟩
  | succ k ih =>
    intro pre q w hp hs hq hlen hok
    subst hq
    have IH := Lib.hid ih
    have HS := Lib.hid hs
    have HPA := Lib.hid hp
    have HOK := Lib.hid hok
    have HB := Lib.hid hB
    have HGB := Lib.hid hgb
    have E0 := Lib.hid (search_succ B most k pre)
    obtain ⟨n, hn⟩ : ∃ n, pre.length = n := ⟨_, rfl⟩
    have HN := Lib.hid hn
    have hnm : n < m := by omega
    have HK := Lib.hid (show n + (k + 1) = m by omega)
    have hnc : n ≤ c := by omega
    obtain ⟨us, hus⟩ : ∃ us, usedP pre = us := ⟨_, rfl⟩
    have HUS := Lib.hid hus
    rw [hn]
    have dn2 : ((n : Int) == (m : Int)) = false := by simp; omega
    have wm : IntKind.i64.wrap ((n : Int) + 1) = (n : Int) + 1 := by rw [IntKind.wrap_i64]; omega
    clear hp hs hok hB hgb hlen hn hus ih
    go_enter Try.func44, Try.ntmps44
    go_wp2
    go_loopw [15] (fun t wr => ∃ (q : Nat), q ≤ most ∧ t = .int .i64 (q : Int) ∧ Hid (q ≤ us) ∧ Hid (∀ n, n < q → tryF B most k pre n = none) ∧ Hid (WhoS m base (.slice (some ⟨g, 0, none⟩) m c) pre wr) ∧ Hid (KeepX (fun i => i = g) w wr)) (fun t _ => most - (intOf t).toNat)
    case atStart => exact ⟨0, Nat.zero_le _, rfl, Lib.hid (Nat.zero_le _), Lib.hid (fun n hn => absurd hn (by omega)), HS, Lib.hid (KeepX.refl _ _)⟩
    case round =>
      obtain ⟨q, hq, rfl, hqu, hF, hW, hX⟩ := hrel
      by_cases hlt : q < most
      rotate_left
      · obtain rfl : q = most := by omega
        have E := Lib.hid (E0.out.trans (find_none hF.out (by omega)))
        go_wp2
        go_ret
        exact ⟨ret_bool (by rw [E.out]; rfl), hX.out, hW.out, fun out ho => by rw [E.out] at ho; cases ho⟩
      obtain ⟨f1, ⟨z, s1⟩, hS3⟩ := hW.out.try (by rw [HN.out]; exact hnm) q
      rw [HN.out] at f1 s1 hS3
      obtain ⟨w3, hw3⟩ : ∃ W, W = wr.setCell ⟨g, n, none⟩ (.int .i64 (q : Int)) := ⟨_, rfl⟩
      rw [← hw3] at hS3
      have HW3 := Lib.hid hw3
      have S3 := Lib.hid hS3
      have X3 := Lib.hid (hX.out.trans (show KeepX (fun i => i = g) wr w3 by rw [hw3]; exact keep_set))
      have PA3 := Lib.hid (HPA.out.keep X3.out HGB.out)
      have SL3 := Lib.hid (show SlInt w3 (.slice (some ⟨g, 0, none⟩) n c) (castL pre) from by have h := S3.out.less.sl hm12 (by rw [HN.out]; omega); rw [HN.out] at h; exact h)
      obtain ⟨t, ht⟩ : ∃ t, fitsP B pre q = t := ⟨_, rfl⟩
      have HT := Lib.hid ht
      obtain ⟨R, hR⟩ : ∃ R, searchR B most k (pre ++ [q]) = R := ⟨_, rfl⟩
      have EF := Lib.hid (show t = true → tryF B most k pre q = R from fun h => by unfold tryF; rw [hR]; exact if_pos (by rw [ht, h]))
      have EN := Lib.hid (show t = false → tryF B most k pre q = none from fun h => by unfold tryF; exact if_neg (by rw [ht, h]; simp))
      have CI := Lib.hid (fun (hh : t = true) => IH.out (pre ++ [q]) ((n : Int) + 1) w3 PA3.out S3.out (by rw [List.length_append, HN.out]; rfl) (by rw [List.length_append, HN.out]; have := HK.out; simp; omega) (HOK.out.snoc hlt (by rw [HUS.out]; exact hqu.out) (by rw [HT.out, hh])))
      rw [hR] at CI
      obtain ⟨r, hr⟩ : ∃ r, R.isSome = r := ⟨_, rfl⟩
      have HRS := Lib.hid hr
      obtain ⟨i, hi⟩ : ∃ i, decide (q ∈ pre) = i := ⟨_, rfl⟩
      have HI := Lib.hid hi
      clear hr hR ht hS3 hw3 hi
      go_wp2_with fail
      rw [← HW3.out]
      clear f1 s1
      refine (canTake_any HB.out b m _ (castL pre) (q : Int) _ PA3.out SL3.out (by rw [castL_len, HN.out]; exact hnm)).mono ?_
      rw [takeB_cast, HT.out]
      rintro e w4 ⟨rfl, rfl⟩
      have S4 := Lib.hid S3.out.less
      cases t with
      | false =>
        have FN := Lib.hid (show ∀ n, n < q + 1 → tryF B most k pre n = none from fun n hn => by
          by_cases e : n = q
          · rw [e]; exact EN.out (by trivial)
          · exact hF.out n (by omega))
        go_wp2_with fail
        refine (contains_any _ (castL pre) (q : Int) _ SL3.out).mono ?_
        rw [any_cast, HI.out]
        rintro e w9 ⟨rfl, rfl⟩
        cases i with
        | false =>
          have hge : us ≤ q := by
            rcases Nat.lt_or_ge q us with h | h
            · have := HOK.out.all q (by rw [HUS.out]; exact h)
              rw [decide_eq_true this] at HI
              cases HI.out
            · exact h
          have E := Lib.hid (E0.out.trans (find_none FN.out (by rw [HUS.out]; omega)))
          clear hge
          go_wp2
          go_ret
          exact ⟨ret_bool (by rw [E.out]; rfl), X3.out, S4.out, fun out ho => by rw [E.out] at ho; cases ho⟩
        | true =>
          have HU := Lib.hid (show q + 1 ≤ us from by have := usedP_le q (of_decide_eq_true HI.out); rw [HUS.out] at this; omega)
          go_wp2
          go_roundw
          case rel => exact ⟨q + 1, by omega, by go_num, HU, FN, S4, X3⟩
          case measure => simp [intOf]; omega
      | true =>
      go_wp2_with fail
      refine (CI.out (by trivial)).mono ?_
      rintro e w5 ⟨he, hk5, hs5, ho5⟩
      rw [HRS.out] at he
      subst he
      have X5 := Lib.hid (X3.out.trans hk5)
      have S5 := Lib.hid hs5.less
      have HO5 := Lib.hid ho5
      have SL5 := Lib.hid (show SlInt w5 (.slice (some ⟨g, 0, none⟩) n c) (castL pre) from by have h := S5.out.sl hm12 (by rw [HN.out]; omega); rw [HN.out] at h; exact h)
      clear hk5 hs5 ho5
      cases r with
      | true =>
        obtain ⟨out, ho⟩ : ∃ out, R = some out := Option.isSome_iff_exists.1 HRS.out
        have E := Lib.hid (E0.out.trans (find_yes hF.out (by rw [HUS.out]; have := hqu.out; omega) ((EF.out (by trivial)).trans ho)))
        have OO := Lib.hid (HO5.out out ho)
        clear ho
        go_wp2
        go_ret
        exact ⟨ret_bool (by rw [E.out]; rfl), X5.out, S5.out, fun o' ho' => by rw [E.out] at ho'; injection ho' with ho'; subst ho'; exact OO.out⟩
      | false =>
        have HRN := Lib.hid (show R = none from by cases h : R with | none => rfl | some x => have := HRS.out; rw [h] at this; cases this)
        have FN := Lib.hid (show ∀ n, n < q + 1 → tryF B most k pre n = none from fun n hn => by
          by_cases e : n = q
          · rw [e]; exact (EF.out (by trivial)).trans HRN.out
          · exact hF.out n (by omega))
        go_wp2_with fail
        refine (contains_any _ (castL pre) (q : Int) _ SL5.out).mono ?_
        rw [any_cast, HI.out]
        rintro e w9 ⟨rfl, rfl⟩
        cases i with
        | false =>
          have hge : us ≤ q := by
            rcases Nat.lt_or_ge q us with h | h
            · have := HOK.out.all q (by rw [HUS.out]; exact h)
              rw [decide_eq_true this] at HI
              cases HI.out
            · exact h
          have E := Lib.hid (E0.out.trans (find_none FN.out (by rw [HUS.out]; omega)))
          clear hge
          go_wp2
          go_ret
          exact ⟨ret_bool (by rw [E.out]; rfl), X5.out, S5.out, fun out ho => by rw [E.out] at ho; cases ho⟩
        | true =>
          have HU := Lib.hid (show q + 1 ≤ us from by have := usedP_le q (of_decide_eq_true HI.out); rw [HUS.out] at this; omega)
          go_wp2
          go_roundw
          case rel => exact ⟨q + 1, by omega, by go_num, HU, FN, S5, X5⟩
          case measure => simp [intOf]; omega
end Go.Proofs.Ytfofbnpgjdagkaa
