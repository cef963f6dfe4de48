
/- Covers, the program's side: coverFrom: contract. -/
import Derived.Test.YtfofbnpgjdagkaaTakeImpl
import Derived.Test.YtfofbnpgjdagkaaIntIn
import Derived.Test.YtfofbnpgjdagkaaOwnSet
namespace Go.Proofs.Ytfofbnpgjdagkaa
open Go.RowKit
set_option maxRecDepth 100000

theorem castL_get (l : List Nat) (i : Nat) : (castL l)[i]? = (l[i]?).map (fun n : Nat => (n : Int)) := by unfold castL; rw [List.getElem?_map]
theorem takeB_cast (B : Nat → Nat → Bool) (pre : List Nat) (n : Nat) : takeB B (castL pre) (n : Int) = fitsP B pre n := by
  unfold takeB fitsP
  rw [castL_len]
  congr 1
  funext k
  rw [castL_get]
  congr 2
  cases h : pre[k]? with
  | none => rfl
  | some x =>
    show ((some (x : Int)) == some (n : Int)) = (some x == some n)
    simp only [Option.some_beq_some]
    rw [Bool.eq_iff_iff, beq_iff_eq, beq_iff_eq]
    omega
theorem any_cast (pre : List Nat) (n : Nat) : (castL pre).any (· == (n : Int)) = decide (n ∈ pre) := by
  rw [Bool.eq_iff_iff, List.any_eq_true, decide_eq_true_iff]
  constructor
  · rintro ⟨x, hx, e⟩
    unfold castL at hx
    obtain ⟨y, hy, rfl⟩ := List.mem_map.1 hx
    have e := beq_iff_eq.1 e
    have : y = n := by omega
    rw [← this]; exact hy
  · intro h
    exact ⟨(n : Int), by unfold castL; exact List.mem_map.2 ⟨n, h, rfl⟩, beq_self_eq_true _⟩
/-- One person is tried for the duty behind pre. -/
def tryF (B : Nat → Nat → Bool) (most k : Nat) (pre : List Nat) (n : Nat) : Option (List Nat) := if fitsP B pre n = true then searchR B most k (pre ++ [n]) else none
theorem search_succ (B : Nat → Nat → Bool) (most k : Nat) (pre : List Nat) : searchR B most (k + 1) pre = (List.range (min (usedP pre + 1) most)).findSome? (tryF B most k pre) := rfl
theorem find_none {f : Nat → Option (List Nat)} {q N : Nat} (h : ∀ n, n < q → f n = none) (hN : N ≤ q) : (List.range N).findSome? f = none := List.findSome?_eq_none_iff.2 fun n hn => h n (by have := List.mem_range.1 hn; omega)
theorem find_yes {f : Nat → Option (List Nat)} {q N : Nat} {out : List Nat} (h : ∀ n, n < q → f n = none) (hN : q < N) (hq : f q = some out) : (List.range N).findSome? f = some out := by
  rw [List.findSome?_eq_some_iff]
  refine ⟨List.range q, q, (List.range (N - q - 1)).map (fun i => q + (i + 1)), ?_, hq, fun n hn => h n (List.mem_range.1 hn)⟩
  have h1 : N = q + ((N - q - 1) + 1) := by omega
  rw [h1, List.range_add, List.range_succ_eq_map, List.map_cons, List.map_map]
  simp [Function.comp_def]
/-- The list in memory: pre, then anything. -/
def WhoS (m base : Nat) (v : Value) (pre : List Nat) (w : World) : Prop := ∃ cu : List Int, OwnInt w base v cu ∧ cu.length = m ∧ cu.take pre.length = castL pre
theorem WhoS.keep {m base : Nat} {v : Value} {pre : List Nat} {ex : Nat → Prop} {w w' : World} (h : WhoS m base v pre w) (hk : KeepX ex w w') (hv : ∀ g, v.ownBlock = some g → ¬ ex g) : WhoS m base v pre w' := by
  obtain ⟨cu, h1, h2, h3⟩ := h
  exact ⟨cu, own_keep h1 hk hv, h2, h3⟩
theorem WhoS.less {m base : Nat} {v : Value} {pre : List Nat} {x : Nat} {w : World} (h : WhoS m base v (pre ++ [x]) w) : WhoS m base v pre w := by
  obtain ⟨cu, h1, h2, h3⟩ := h
  refine ⟨cu, h1, h2, ?_⟩
  have := congrArg (List.take pre.length) h3
  rw [List.take_take, List.length_append, Nat.min_eq_left (by omega), castL_snoc, List.take_left' (castL_len pre)] at this
  exact this
theorem WhoS.sl {m base g c : Nat} {pre : List Nat} {w : World} (h : WhoS m base (.slice (some ⟨g, 0, none⟩) m c) pre w) (hm : m ≤ 12) (hp : pre.length ≤ m) : SlInt w (.slice (some ⟨g, 0, none⟩) pre.length c) (castL pre) := by
  obtain ⟨cu, h1, h2, h3⟩ := h
  have hs := h1.sl (by omega)
  rw [← h2] at hs
  have ht := SlOf.takeP (k := pre.length) hs (by omega)
  rw [h3] at ht
  exact ht
theorem WhoS.all {m base g c : Nat} {out : List Nat} {w : World} (h : WhoS m base (.slice (some ⟨g, 0, none⟩) m c) out w) (hp : out.length = m) : OwnInt w base (.slice (some ⟨g, 0, none⟩) m c) (castL out) := by
  obtain ⟨cu, h1, h2, h3⟩ := h
  rw [hp, List.take_of_length_le (by omega)] at h3
  rw [← h3]; exact h1
/-- A person is tried. -/
theorem WhoS.try {m base g c : Nat} {pre : List Nat} {w : World} (h : WhoS m base (.slice (some ⟨g, 0, none⟩) m c) pre w) (hp : pre.length < m) (q : Nat) :
    w.frozen? ⟨g, pre.length, none⟩ = false ∧ (∃ z, w.cell? ⟨g, pre.length, none⟩ = some (.int .i64 z)) ∧ WhoS m base (.slice (some ⟨g, 0, none⟩) m c) (pre ++ [q]) (w.setCell ⟨g, pre.length, none⟩ (.int .i64 (q : Int))) := by
  obtain ⟨cu, h1, h2, h3⟩ := h
  obtain ⟨x, hx⟩ : ∃ x, cu[pre.length]? = some x := ⟨_, List.getElem?_eq_getElem (by omega)⟩
  subst h2
  refine ⟨World.ownsRow.frozenAt h1 _, ⟨x, ?_⟩, cu.set pre.length (q : Int), ?_, by rw [List.length_set], ?_⟩
  · have := own_at intLen h1 rfl hx (j := 0) (u := .int .i64 x) rfl
    simpa using this
  · have := own_set (x' := (q : Int)) intLen h1 hx (j := 0) (u := .int .i64 (q : Int)) (by omega) rfl
    simp only [Nat.mul_one, Nat.add_zero, List.length_set] at this
    exact this
  · rw [List.length_append, List.length_cons, List.length_nil, castL_snoc, ← h3]
    rw [take_snoc' _ pre.length (q : Int) (List.getElem?_set_self hp), List.take_set_of_le (Nat.le_refl _)]
theorem keep_set {w : World} {g j : Nat} {u : Value} : KeepX (fun i => i = g) w (w.setCell ⟨g, j, none⟩ u) :=
  KeepX.mk rfl rfl rfl (by simp) (fun i _ hn => Below.heap_setCell w ⟨g, j, none⟩ u i hn)
/-- What coverFrom leaves. -/
def CovIn (R : Option (List Nat)) (m base g c : Nat) (pre : List Nat) (w : World) (e : Ending) (w' : World) : Prop :=
  e = .returned (.bool R.isSome) ∧ KeepX (fun i => i = g) w w' ∧ WhoS m base (.slice (some ⟨g, 0, none⟩) m c) pre w' ∧ ∀ out, R = some out → WhoS m base (.slice (some ⟨g, 0, none⟩) m c) out w' ∧ out.length = m
set_option maxHeartbeats 16000000 in
theorem coverFrom_any {B : Nat → Nat → Bool} (hB : ∀ i j, B i j = B j i) (b m most base g c : Nat) (hm12 : m ≤ 12) (hP : most ≤ 12) (hgb : b ≠ g) (hc : m ≤ c) : ∀ (k : Nat) (pre : List Nat) (q : Int) (w : World), PairAt w b m B → WhoS m base (.slice (some ⟨g, 0, none⟩) m c) pre w → q = (pre.length : Int) → pre.length + k = m → CovOk B most pre →
    Calls Try.prog 44 #[.map (some b), .slice (some ⟨g, 0, none⟩) m c, .int .i64 q, .int .i64 (most : Int)] w (CovIn (searchR B most k pre) m base g c pre w) := by
  intro k
  induction k with
  | zero =>
    intro pre q w hp hs hq hlen hok
    subst hq
    have HS := Lib.hid hs
    have hl : pre.length = m := by omega
    rw [hl]
    have HL := Lib.hid hl
    clear hp hs hlen hok hB hl
    have hmm : ((m : Int) == (m : Int)) = true := beq_self_eq_true _
    go_enter Try.func44, Try.ntmps44
    go_wp2
    go_ret
    exact ⟨rfl, KeepX.refl _ _, HS.out, fun out ho => by injection ho with ho; subst ho; exact ⟨HS.out, HL.out⟩⟩
  | succ k ih =>
    intro pre q w hp hs hq hlen hok
    subst hq
    have IH := Lib.hid ih
    have HS := Lib.hid hs
    have HPA := Lib.hid hp
    have HOK := Lib.hid hok
    have HB := Lib.hid hB
    have HGB := Lib.hid hgb
    have E0 := Lib.hid (search_succ B most k pre)
    obtain ⟨n, hn⟩ : ∃ n, pre.length = n := ⟨_, rfl⟩
    have HN := Lib.hid hn
    have hnm : n < m := by omega
    have HK := Lib.hid (show n + (k + 1) = m by omega)
    have hnc : n ≤ c := by omega
    obtain ⟨us, hus⟩ : ∃ us, usedP pre = us := ⟨_, rfl⟩
    have HUS := Lib.hid hus
    rw [hn]
    have dn2 : ((n : Int) == (m : Int)) = false := by simp; omega
    have wm : IntKind.i64.wrap ((n : Int) + 1) = (n : Int) + 1 := by rw [IntKind.wrap_i64]; omega
    clear hp hs hok hB hgb hlen hn hus ih
    go_enter Try.func44, Try.ntmps44
    go_wp2
    go_loopw [15] (fun t wr => ∃ (q : Nat), q ≤ most ∧ t = .int .i64 (q : Int) ∧ Hid (q ≤ us) ∧ Hid (∀ n, n < q → tryF B most k pre n = none) ∧ Hid (WhoS m base (.slice (some ⟨g, 0, none⟩) m c) pre wr) ∧ Hid (KeepX (fun i => i = g) w wr)) (fun t _ => most - (intOf t).toNat)
    case atStart => exact ⟨0, Nat.zero_le _, rfl, Lib.hid (Nat.zero_le _), Lib.hid (fun n hn => absurd hn (by omega)), HS, Lib.hid (KeepX.refl _ _)⟩
    case round =>
      obtain ⟨q, hq, rfl, hqu, hF, hW, hX⟩ := hrel
      by_cases hlt : q < most
      rotate_left
      · obtain rfl : q = most := by omega
        have E := Lib.hid (E0.out.trans (find_none hF.out (by omega)))
        go_wp2
        go_ret
        exact ⟨ret_bool (by rw [E.out]; rfl), hX.out, hW.out, fun out ho => by rw [E.out] at ho; cases ho⟩
      obtain ⟨f1, ⟨z, s1⟩, hS3⟩ := hW.out.try (by rw [HN.out]; exact hnm) q
      rw [HN.out] at f1 s1 hS3
      obtain ⟨w3, hw3⟩ : ∃ W, W = wr.setCell ⟨g, n, none⟩ (.int .i64 (q : Int)) := ⟨_, rfl⟩
      rw [← hw3] at hS3
      have HW3 := Lib.hid hw3
      have S3 := Lib.hid hS3
      have X3 := Lib.hid (hX.out.trans (show KeepX (fun i => i = g) wr w3 by rw [hw3]; exact keep_set))
      have PA3 := Lib.hid (HPA.out.keep X3.out HGB.out)
      have SL3 := Lib.hid (show SlInt w3 (.slice (some ⟨g, 0, none⟩) n c) (castL pre) from by have h := S3.out.less.sl hm12 (by rw [HN.out]; omega); rw [HN.out] at h; exact h)
      obtain ⟨t, ht⟩ : ∃ t, fitsP B pre q = t := ⟨_, rfl⟩
      have HT := Lib.hid ht
      obtain ⟨R, hR⟩ : ∃ R, searchR B most k (pre ++ [q]) = R := ⟨_, rfl⟩
      have EF := Lib.hid (show t = true → tryF B most k pre q = R from fun h => by unfold tryF; rw [hR]; exact if_pos (by rw [ht, h]))
      have EN := Lib.hid (show t = false → tryF B most k pre q = none from fun h => by unfold tryF; exact if_neg (by rw [ht, h]; simp))
      have CI := Lib.hid (fun (hh : t = true) => IH.out (pre ++ [q]) ((n : Int) + 1) w3 PA3.out S3.out (by rw [List.length_append, HN.out]; rfl) (by rw [List.length_append, HN.out]; have := HK.out; simp; omega) (HOK.out.snoc hlt (by rw [HUS.out]; exact hqu.out) (by rw [HT.out, hh])))
      rw [hR] at CI
      obtain ⟨r, hr⟩ : ∃ r, R.isSome = r := ⟨_, rfl⟩
      have HRS := Lib.hid hr
      obtain ⟨i, hi⟩ : ∃ i, decide (q ∈ pre) = i := ⟨_, rfl⟩
      have HI := Lib.hid hi
      clear hr hR ht hS3 hw3 hi
      go_wp2_with fail
      rw [← HW3.out]
      clear f1 s1
      refine (canTake_any HB.out b m _ (castL pre) (q : Int) _ PA3.out SL3.out (by rw [castL_len, HN.out]; exact hnm)).mono ?_
      rw [takeB_cast, HT.out]
      rintro e w4 ⟨rfl, rfl⟩
      have S4 := Lib.hid S3.out.less
      cases t with
      | false =>
        have FN := Lib.hid (show ∀ n, n < q + 1 → tryF B most k pre n = none from fun n hn => by
          by_cases e : n = q
          · rw [e]; exact EN.out (by trivial)
          · exact hF.out n (by omega))
        go_wp2_with fail
        refine (contains_any _ (castL pre) (q : Int) _ SL3.out).mono ?_
        rw [any_cast, HI.out]
        rintro e w9 ⟨rfl, rfl⟩
        cases i with
        | false =>
          have hge : us ≤ q := by
            rcases Nat.lt_or_ge q us with h | h
            · have := HOK.out.all q (by rw [HUS.out]; exact h)
              rw [decide_eq_true this] at HI
              cases HI.out
            · exact h
          have E := Lib.hid (E0.out.trans (find_none FN.out (by rw [HUS.out]; omega)))
          clear hge
          go_wp2
          go_ret
          exact ⟨ret_bool (by rw [E.out]; rfl), X3.out, S4.out, fun out ho => by rw [E.out] at ho; cases ho⟩
        | true =>
          have HU := Lib.hid (show q + 1 ≤ us from by have := usedP_le q (of_decide_eq_true HI.out); rw [HUS.out] at this; omega)
          go_wp2
          go_roundw
          case rel => exact ⟨q + 1, by omega, by go_num, HU, FN, S4, X3⟩
          case measure => simp [intOf]; omega
      | true =>
      go_wp2_with fail
      refine (CI.out (by trivial)).mono ?_
      rintro e w5 ⟨he, hk5, hs5, ho5⟩
      rw [HRS.out] at he
      subst he
      have X5 := Lib.hid (X3.out.trans hk5)
      have S5 := Lib.hid hs5.less
      have HO5 := Lib.hid ho5
      have SL5 := Lib.hid (show SlInt w5 (.slice (some ⟨g, 0, none⟩) n c) (castL pre) from by have h := S5.out.sl hm12 (by rw [HN.out]; omega); rw [HN.out] at h; exact h)
      clear hk5 hs5 ho5
      cases r with
      | true =>
        obtain ⟨out, ho⟩ : ∃ out, R = some out := Option.isSome_iff_exists.1 HRS.out
        have E := Lib.hid (E0.out.trans (find_yes hF.out (by rw [HUS.out]; have := hqu.out; omega) ((EF.out (by trivial)).trans ho)))
        have OO := Lib.hid (HO5.out out ho)
        clear ho
        go_wp2
        go_ret
        exact ⟨ret_bool (by rw [E.out]; rfl), X5.out, S5.out, fun o' ho' => by rw [E.out] at ho'; injection ho' with ho'; subst ho'; exact OO.out⟩
      | false =>
        have HRN := Lib.hid (show R = none from by cases h : R with | none => rfl | some x => have := HRS.out; rw [h] at this; cases this)
        have FN := Lib.hid (show ∀ n, n < q + 1 → tryF B most k pre n = none from fun n hn => by
          by_cases e : n = q
          · rw [e]; exact (EF.out (by trivial)).trans HRN.out
          · exact hF.out n (by omega))
        go_wp2_with fail
        refine (contains_any _ (castL pre) (q : Int) _ SL5.out).mono ?_
        rw [any_cast, HI.out]
        rintro e w9 ⟨rfl, rfl⟩
        cases i with
        | false =>
          have hge : us ≤ q := by
            rcases Nat.lt_or_ge q us with h | h
            · have := HOK.out.all q (by rw [HUS.out]; exact h)
              rw [decide_eq_true this] at HI
              cases HI.out
            · exact h
          have E := Lib.hid (E0.out.trans (find_none FN.out (by rw [HUS.out]; omega)))
          clear hge
          go_wp2
          go_ret
          exact ⟨ret_bool (by rw [E.out]; rfl), X5.out, S5.out, fun out ho => by rw [E.out] at ho; cases ho⟩
        | true =>
          have HU := Lib.hid (show q + 1 ≤ us from by have := usedP_le q (of_decide_eq_true HI.out); rw [HUS.out] at this; omega)
          go_wp2
          go_roundw
          case rel => exact ⟨q + 1, by omega, by go_num, HU, FN, S5, X5⟩
          case measure => simp [intOf]; omega
end Go.Proofs.Ytfofbnpgjdagkaa
