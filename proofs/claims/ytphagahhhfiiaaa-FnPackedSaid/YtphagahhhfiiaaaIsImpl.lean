
/- Lock chambers, the program's side: IsPacking: contract. -/
import Derived.Test.YtphagahhhfiiaaaPackImpl
import Derived.Test.YtphagahhhfiiaaaIsMath
import Derived.Test.YtphagahhhfiiaaaIndexP
namespace Go.Proofs.Ytphagahhhfiiaaa
open Go.RowKit
set_option maxRecDepth 100000

/-- What the lanes hold behind the first i ships. -/
def FillTo (l s : List Int) (i : Nat) (ls : List (List Int)) : Prop := ∀ (j : Nat) f, ls[j]? = some f → sumZ f = sumIn (l.take i) (s.take i) j ∧ (∀ x ∈ f, 1 ≤ x ∧ x ≤ 400) ∧ f.length ≤ i
theorem FillTo.zero (l s : List Int) (a : Nat) : FillTo l s 0 (List.replicate a []) := fun j f h => by
  rw [List.getElem?_replicate] at h
  split at h
  · injection h with h; subst h; exact ⟨by simp [sumZ, sumIn], by simp, Nat.le_refl _⟩
  · cases h
theorem FillTo.next {l s : List Int} {i y : Nat} {ls : List (List Int)} {x : Int} {f : List Int} (h : FillTo l s i ls) (hx : l[i]? = some x) (hy : s[i]? = some (y : Int)) (hf : ls[y]? = some f) (hb : 1 ≤ x ∧ x ≤ 400) : FillTo l s (i + 1) (ls.set y (f ++ [x])) := fun j g hg => by
  rw [sumIn_snoc hx hy]
  by_cases e : j = y
  · subst e
    rw [List.getElem?_set_self (List.getElem?_eq_some_iff.1 hf).1] at hg
    injection hg with hg
    subst hg
    obtain ⟨h1, h2, h3⟩ := h j f hf
    refine ⟨by rw [sumZ_snoc, h1, if_pos rfl], fun z hz => ?_, by simp; exact h3⟩
    rcases List.mem_append.1 hz with hz | hz
    · exact h2 z hz
    · simp at hz; omega
  · rw [List.getElem?_set_ne (fun e' => e e'.symm)] at hg
    obtain ⟨h1, h2, h3⟩ := h j g hg
    exact ⟨by rw [h1, if_neg (by omega)]; omega, h2, by omega⟩
set_option maxHeartbeats 16000000 in
theorem implIsPacking (k : ChamberD) (yl : Value) (l : List Int) (ys : Value) (s : List Int) (w : World) (rl : SlInt w yl l) (rs : SlInt w ys s) :
    Calls Try.prog 17 #[k.val, yl, ys] w fun e w' => e = .returned (.bool (packB k l s)) ∧ Below w.heap.size w w' := by
  obtain ⟨W0, hW0⟩ : ∃ W0, W0 = (w.alloc (.cells #[.int .i64 k.length, .int .i64 k.lanes, .int .i64 k.minutes] 24)) := ⟨_, rfl⟩
  have B := Lib.hid (Joins.below_alloc1 w (.cells #[.int .i64 k.length, .int .i64 k.lanes, .int .i64 k.minutes] 24))
  have K := Lib.hid (Blk.new w #[.int .i64 k.length, .int .i64 k.lanes, .int .i64 k.minutes] 24)
  have HW0 := Lib.hid hW0
  rw [← hW0] at B K
  clear hW0
  have R := Lib.hid (SlOf.below rl B.out)
  have RS := Lib.hid (SlOf.below rs B.out)
  have hsm := rs.1
  obtain ⟨A1, c1, rfl⟩ := SlOf.form rl
  obtain ⟨A2, c2, rfl⟩ := SlOf.form rs
  obtain ⟨b, hb⟩ : ∃ b, (chamB k && lensB l) = b := ⟨_, rfl⟩
  have HB := Lib.hid hb
  clear hb rl rs
  have v0 : W0.cell? ⟨w.heap.size, 0, none⟩ = some (.int .i64 k.length) := K.out.cell 0
  have v1 : W0.cell? ⟨w.heap.size, 1, none⟩ = some (.int .i64 k.lanes) := K.out.cell 1
  have v2 : W0.cell? ⟨w.heap.size, 2, none⟩ = some (.int .i64 k.minutes) := K.out.cell 2
  go_enter Try.func17, Try.ntmps17
  go_wp2_with fail
  rw [← HW0.out]
  clear v0 v1 v2
  refine (implCanPack k _ l _ R.out).mono ?_
  rw [HB.out]
  rintro e w1 ⟨rfl, hb⟩
  have B1 := Lib.hid (B.out.trans (hb.mono B.out.size))
  have K1 := Lib.hid (K.out.below hb)
  have R1 := Lib.hid (SlOf.below R.out hb)
  have S1 := Lib.hid (SlOf.below RS.out hb)
  clear hb R B K RS
  cases b with
  | false =>
    have E := Lib.hid (packB_bad (s := s) HB.out)
    go_wp2
    go_ret
    exact ⟨ret_bool E.out.symm, B1.out⟩
  | true =>
    obtain ⟨h1, h2⟩ : chamB k = true ∧ lensB l = true := by have := HB.out; simpa using this
    have h8 := lensB_len h2
    have H1 := Lib.hid h1
    have H2 := Lib.hid h2
    obtain ⟨m, hm⟩ : ∃ m, l.length = m := ⟨_, rfl⟩
    obtain ⟨z, hz⟩ : ∃ z, s.length = z := ⟨_, rfl⟩
    have HM := Lib.hid hm
    have HZ := Lib.hid hz
    rw [hm] at h8 R1
    rw [hz] at S1 hsm
    try rw [hm]
    try rw [hz]
    obtain ⟨kl0, kl1, ka0, ka1, -, -⟩ := chamB_true h1
    obtain ⟨a, ha⟩ : ∃ a, k.lanes.toNat = a := ⟨_, rfl⟩
    have hka : k.lanes = (a : Int) := by omega
    have ha3 : a ≤ 3 := by omega
    have HKA := Lib.hid hka
    have HAA := Lib.hid ha
    clear hm hz h1 h2 ha
    by_cases hzm : z = m
    rotate_left
    · have E := Lib.hid (packB_len (k := k) (l := l) (s := s) (by rw [HM.out, HZ.out]; exact hzm))
      have hne : ((z : Int) != (m : Int)) = true := by simp; omega
      clear hzm hka
      go_wp2
      go_ret
      exact ⟨ret_bool E.out.symm, B1.out⟩
    subst hzm
    have hne : ((z : Int) != (z : Int)) = false := by simp
    have hmk := make_lanes a (by omega)
    have HMK := Lib.hid hmk
    rw [← hka] at hmk
    have v1 : w1.cell? ⟨w.heap.size, 1, none⟩ = some (.int .i64 k.lanes) := K1.out.cell 1
    clear hka
    go_wp2
    have N0 := LanesAt.new w1 a
    rw [show (List.replicate a (Value.slice none 0 0)).toArray = Array.replicate a (Value.slice none 0 0) by simp] at N0
    obtain ⟨W2, hW2⟩ : ∃ W, W = w1.alloc (.cells (Array.replicate a (Value.slice none 0 0)) 62) := ⟨_, rfl⟩
    rw [← hW2] at N0 ⊢
    have HN0 := Lib.hid N0
    clear hW2 N0 hmk v1 hne
    go_loopw [26] (fun t wr => ∃ (i : Nat) (ws : List Value) (ls : List (List Int)), i ≤ z ∧ t = .int .i64 (i : Int) ∧ Hid (LanesAt w1 wr w1.heap.size ws ls) ∧ Hid (ls.length = a) ∧ Hid (FillTo l s i ls) ∧ Hid (IsTo k l s i)) (fun t _ => z - (intOf t).toNat)
    case atStart => exact ⟨0, _, _, Nat.zero_le _, rfl, HN0, Lib.hid (by simp), Lib.hid (FillTo.zero l s a), Lib.hid (IsTo.zero l s H1.out)⟩
    case round =>
      obtain ⟨i, ws, ls, hi, rfl, hA, hL, hF, hT⟩ := hrel
      have Br := Lib.hid (B1.out.trans (hA.out.low.mono B1.out.size))
      by_cases hlt : i < z
      rotate_left
      · obtain rfl : i = z := by omega
        have E := Lib.hid (IsTo.all (by rw [HM.out]; exact hT.out) H1.out H2.out (by rw [HM.out, HZ.out]))
        go_wp2
        go_ret
        exact ⟨ret_bool E.out.symm, Br.out⟩
      have hlti : (i : Int) < (z : Int) := by omega
      obtain ⟨x, hx⟩ : ∃ x, l[i]? = some x := ⟨_, List.getElem?_eq_getElem (by have := HM.out; omega)⟩
      obtain ⟨y, hy⟩ : ∃ y, s[i]? = some y := ⟨_, List.getElem?_eq_getElem (by have := HZ.out; omega)⟩
      have hxb := lensB_at H2.out hx
      have HX := Lib.hid hx
      have HY := Lib.hid hy
      rcases R1.out.2 with ⟨he, _⟩ | ⟨gl, ol, cl, e, lpos, lcap, lc⟩
      · rw [he] at hx; simp at hx
      injection e with ea e2 e3
      subst ea
      clear e2 e3 lpos lcap
      rcases S1.out.2 with ⟨he, _⟩ | ⟨gs, os, cs, e, spos, scap, sc⟩
      · rw [he] at hy; simp at hy
      injection e with ea e2 e3
      subst ea
      clear e2 e3 spos scap
      have YX := Lib.hid (SlInt.cells lc i x hx)
      have YY := Lib.hid (SlInt.cells sc i y hy)
      clear lc sc hx hy
      have yy : wr.cell? ⟨gs, os + i, none⟩ = some (.int .i64 y) := cell_onV YY.out hA.out.low
      go_upto_region 7 with fail
      clear yy
      obtain ⟨w5, hw5⟩ : ∃ W, W = wr.drew := ⟨_, rfl⟩
      have A5 := hA.out.drew
      rw [← hw5] at A5
      have HA5 := Lib.hid A5
      have HW5 := Lib.hid hw5
      clear hw5 A5
      obtain ⟨t, ht⟩ : ∃ t, inB y 0 (k.lanes - 1) = t := ⟨_, rfl⟩
      have HT := Lib.hid ht
      have ISI := Lib.hid (isIndexP_any y a w5)
      have HIX := Lib.hid (show inB y 0 ((a : Int) - 1) = t by rw [← HKA.out]; exact ht)
      clear ht
      cases t with
      | false =>
        have E := Lib.hid (packB_off (k := k) (l := l) HY.out HT.out)
        have C0 := Lib.hid (show w5.cell? ⟨w.heap.size, 0, none⟩ = some (.int .i64 k.length) from (K1.out.below HA5.out.low).cell 0)
        have e0 : wr.cell? ⟨w.heap.size, 0, none⟩ = some (.int .i64 k.length) := (K1.out.below hA.out.low).cell 0
        refine wp_region_held_drew (S := (fun w' => w'.cell? ⟨w.heap.size, 0, none⟩ = some (.int .i64 k.length))) (by kernel_rfl) ?_ (fun hHeld => ?_)
        · (try dsimp only); go_keep
        rw [← HW5.out] at hHeld ⊢
        clear e0
        refine wpAnyH_take (i := 0) (v := ?_) (by simp only [List.getElem?_toArray, List.getElem?_cons_zero]; rfl) (by kernel_rfl) (by kernel_rfl) (by kernel_rfl) (by exact fun _ _ _ h => h) (Or.inl ⟨by rfl, ?_⟩) (by assumption) ?_; rotate_left; focus (intro w hSw; (try dsimp only at hSw); first | (go_simp; done) | (go_simp; with_reducible rfl))
        (try simp only [Act.put]); (try simp only [List.setIfInBounds_toArray]); (try simp only [List.set_cons_succ]); (try simp only [List.set_cons_zero])
        refine wpAnyH_take (i := 1) (v := ?_) (by simp only [List.getElem?_toArray, List.getElem?_cons_succ, List.getElem?_cons_zero]; rfl) (by kernel_rfl) (by kernel_rfl) (by kernel_rfl) (by exact fun _ _ _ h => h) (Or.inl ⟨by rfl, ?_⟩) (by assumption) ?_; rotate_left; focus (intro w hSw; (try dsimp only at hSw); first | (go_simp; done) | (go_simp; with_reducible rfl))
        (try simp only [Act.put]); (try simp only [List.setIfInBounds_toArray]); (try simp only [List.set_cons_succ]); (try simp only [List.set_cons_zero])
        refine wpAnyH_take (i := 2) (v := ?_) (by simp only [List.getElem?_toArray, List.getElem?_cons_succ, List.getElem?_cons_zero]; rfl) (by kernel_rfl) (by kernel_rfl) (by kernel_rfl) (by exact fun _ _ _ h => h) (Or.inl ⟨by rfl, ?_⟩) (by assumption) ?_; rotate_left; focus (intro w hSw; (try dsimp only at hSw); first | (go_simp; done) | (go_simp; with_reducible rfl))
        (try simp only [Act.put]); (try simp only [List.setIfInBounds_toArray]); (try simp only [List.set_cons_succ]); (try simp only [List.set_cons_zero])
        refine wpAnyH_ready (rs := [3]) (by kernel_rfl) (by simp) ?_
        refine AllReadyH.cons rfl (fun K hK => ?_) AllReadyH.nil
        rw [if_pos (by rfl)]
        go_simp
        go_at_call 44
        refine ISI.out.mono ?_
        rw [HIX.out]
        rintro e w6 ⟨rfl, rfl⟩
        go_simp
        refine hK.out _ _ C0.out (fun hHeld => ?_)
        clear hK K
        (try simp only [Act.put]); (try simp only [List.setIfInBounds_toArray]); (try simp only [List.set_cons_succ]); (try simp only [List.set_cons_zero])
        refine wpAnyH_take (i := 4) (v := ?_) (by simp only [List.getElem?_toArray, List.getElem?_cons_succ, List.getElem?_cons_zero]; rfl) (by kernel_rfl) (by kernel_rfl) (by kernel_rfl) (by exact fun _ _ _ h => h) (Or.inl ⟨by rfl, ?_⟩) (by assumption) ?_; rotate_left; focus (intro w hSw; (try dsimp only at hSw); first | (go_simp; done) | (go_simp; with_reducible rfl))
        (try simp only [Act.put]); (try simp only [List.setIfInBounds_toArray]); (try simp only [List.set_cons_succ]); (try simp only [List.set_cons_zero])
        refine wpAnyH_take (i := 5) (v := ?_) (by simp only [List.getElem?_toArray, List.getElem?_cons_succ, List.getElem?_cons_zero]; rfl) (by kernel_rfl) (by kernel_rfl) (by kernel_rfl) (by exact fun _ _ _ h => h) (Or.inl ⟨by rfl, ?_⟩) (by assumption) ?_; rotate_left; focus (intro w hSw; (try dsimp only at hSw); first | (go_simp; done) | (go_simp; with_reducible rfl))
        (try simp only [Act.put]); (try simp only [List.setIfInBounds_toArray]); (try simp only [List.set_cons_succ]); (try simp only [List.set_cons_zero])
        refine wpAnyH_take (i := 6) (v := undef) (by simp only [List.getElem?_toArray, List.getElem?_cons_succ, List.getElem?_cons_zero]; rfl) (by kernel_rfl) (by kernel_rfl) (by kernel_rfl) (by exact fun _ _ _ h => h) (Or.inr ⟨by rfl, rfl⟩) (by assumption) ?_
        (try simp only [Act.put]); (try simp only [List.setIfInBounds_toArray]); (try simp only [List.set_cons_succ]); (try simp only [List.set_cons_zero])
        refine wpAnyH_take (i := 7) (v := undef) (by simp only [List.getElem?_toArray, List.getElem?_cons_succ, List.getElem?_cons_zero]; rfl) (by kernel_rfl) (by kernel_rfl) (by kernel_rfl) (by exact fun _ _ _ h => h) (Or.inr ⟨by rfl, rfl⟩) (by assumption) ?_
        (try simp only [Act.put]); (try simp only [List.setIfInBounds_toArray]); (try simp only [List.set_cons_succ]); (try simp only [List.set_cons_zero])
        refine wpAnyH_take (i := 8) (v := undef) (by simp only [List.getElem?_toArray, List.getElem?_cons_succ, List.getElem?_cons_zero]; rfl) (by kernel_rfl) (by kernel_rfl) (by kernel_rfl) (by exact fun _ _ _ h => h) (Or.inr ⟨by rfl, rfl⟩) (by assumption) ?_
        (try simp only [Act.put]); (try simp only [List.setIfInBounds_toArray]); (try simp only [List.set_cons_succ]); (try simp only [List.set_cons_zero])
        refine wpAnyH_take (i := 9) (v := undef) (by simp only [List.getElem?_toArray, List.getElem?_cons_succ, List.getElem?_cons_zero]; rfl) (by kernel_rfl) (by kernel_rfl) (by kernel_rfl) (by exact fun _ _ _ h => h) (Or.inr ⟨by rfl, rfl⟩) (by assumption) ?_
        (try simp only [Act.put]); (try simp only [List.setIfInBounds_toArray]); (try simp only [List.set_cons_succ]); (try simp only [List.set_cons_zero])
        refine wpAnyH_take (i := 10) (v := undef) (by simp only [List.getElem?_toArray, List.getElem?_cons_succ, List.getElem?_cons_zero]; rfl) (by kernel_rfl) (by kernel_rfl) (by kernel_rfl) (by exact fun _ _ _ h => h) (Or.inr ⟨by rfl, rfl⟩) (by assumption) ?_
        (try simp only [Act.put]); (try simp only [List.setIfInBounds_toArray]); (try simp only [List.set_cons_succ]); (try simp only [List.set_cons_zero])
        refine wpAnyH_take (i := 11) (v := undef) (by simp only [List.getElem?_toArray, List.getElem?_cons_succ, List.getElem?_cons_zero]; rfl) (by kernel_rfl) (by kernel_rfl) (by kernel_rfl) (by exact fun _ _ _ h => h) (Or.inr ⟨by rfl, rfl⟩) (by assumption) ?_
        (try simp only [Act.put]); (try simp only [List.setIfInBounds_toArray]); (try simp only [List.set_cons_succ]); (try simp only [List.set_cons_zero])
        refine wpAnyH_take (i := 12) (v := undef) (by simp only [List.getElem?_toArray, List.getElem?_cons_succ, List.getElem?_cons_zero]; rfl) (by kernel_rfl) (by kernel_rfl) (by kernel_rfl) (by exact fun _ _ _ h => h) (Or.inr ⟨by rfl, rfl⟩) (by assumption) ?_
        (try simp only [Act.put]); (try simp only [List.setIfInBounds_toArray]); (try simp only [List.set_cons_succ]); (try simp only [List.set_cons_zero])
        refine wpAnyH_take (i := 13) (v := undef) (by simp only [List.getElem?_toArray, List.getElem?_cons_succ, List.getElem?_cons_zero]; rfl) (by kernel_rfl) (by kernel_rfl) (by kernel_rfl) (by exact fun _ _ _ h => h) (Or.inr ⟨by rfl, rfl⟩) (by assumption) ?_
        (try simp only [Act.put]); (try simp only [List.setIfInBounds_toArray]); (try simp only [List.set_cons_succ]); (try simp only [List.set_cons_zero])
        refine wpAnyH_take (i := 14) (v := undef) (by simp only [List.getElem?_toArray, List.getElem?_cons_succ, List.getElem?_cons_zero]; rfl) (by kernel_rfl) (by kernel_rfl) (by kernel_rfl) (by exact fun _ _ _ h => h) (Or.inr ⟨by rfl, rfl⟩) (by assumption) ?_
        (try simp only [Act.put]); (try simp only [List.setIfInBounds_toArray]); (try simp only [List.set_cons_succ]); (try simp only [List.set_cons_zero])
        refine wpAnyH_take (i := 15) (v := undef) (by simp only [List.getElem?_toArray, List.getElem?_cons_succ, List.getElem?_cons_zero]; rfl) (by kernel_rfl) (by kernel_rfl) (by kernel_rfl) (by exact fun _ _ _ h => h) (Or.inr ⟨by rfl, rfl⟩) (by assumption) ?_
        (try simp only [Act.put]); (try simp only [List.setIfInBounds_toArray]); (try simp only [List.set_cons_succ]); (try simp only [List.set_cons_zero])
        refine wpAnyH_take (i := 16) (v := undef) (by simp only [List.getElem?_toArray, List.getElem?_cons_succ, List.getElem?_cons_zero]; rfl) (by kernel_rfl) (by kernel_rfl) (by kernel_rfl) (by exact fun _ _ _ h => h) (Or.inr ⟨by rfl, rfl⟩) (by assumption) ?_
        (try simp only [Act.put]); (try simp only [List.setIfInBounds_toArray]); (try simp only [List.set_cons_succ]); (try simp only [List.set_cons_zero])
        refine wpAnyH_take (i := 17) (v := undef) (by simp only [List.getElem?_toArray, List.getElem?_cons_succ, List.getElem?_cons_zero]; rfl) (by kernel_rfl) (by kernel_rfl) (by kernel_rfl) (by exact fun _ _ _ h => h) (Or.inr ⟨by rfl, rfl⟩) (by assumption) ?_
        (try simp only [Act.put]); (try simp only [List.setIfInBounds_toArray]); (try simp only [List.set_cons_succ]); (try simp only [List.set_cons_zero])
        refine wpAnyH_take (i := 18) (v := ?_) (by simp only [List.getElem?_toArray, List.getElem?_cons_succ, List.getElem?_cons_zero]; rfl) (by kernel_rfl) (by kernel_rfl) (by kernel_rfl) (by exact fun _ _ _ h => h) (Or.inl ⟨by rfl, ?_⟩) (by assumption) ?_; rotate_left; focus (intro w hSw; (try dsimp only at hSw); first | (go_simp; done) | (go_simp; with_reducible rfl))
        (try simp only [Act.put]); (try simp only [List.setIfInBounds_toArray]); (try simp only [List.set_cons_succ]); (try simp only [List.set_cons_zero])
        refine wpAnyH_done (by kernel_rfl) ?_ _
        go_wp2
        go_ret
        exact ⟨ret_bool E.out.symm, B1.out.trans (HA5.out.low.mono B1.out.size)⟩
      | true =>
        have hyb := of_decide_eq_true HT.out
        obtain ⟨n, rfl⟩ : ∃ n : Nat, y = (n : Int) := ⟨y.toNat, by omega⟩
        have hna : n < a := by have := HKA.out; omega
        obtain ⟨v, f, hv, hf⟩ := HA5.out.at (i := n) (by have := hL.out; omega)
        obtain ⟨Av, cv, rfl⟩ := own_form (HA5.out.own n v f hv hf)
        obtain ⟨hf1, hf2, hf3⟩ := hF.out n f hf
        have HV := Lib.hid hv
        have HFF := Lib.hid hf
        have HF1 := Lib.hid hf1
        have SV := Lib.hid (own_sl intLen (HA5.out.own n _ f hv hf) (by omega))
        have HRM := Lib.hid (implHasRoom (.slice Av f.length cv) f x k.length w5 SV.out hf2 (by omega) (by omega) hxb.2)
        obtain ⟨r, hr⟩ : ∃ r, decide (sumZ f + x ≤ k.length) = r := ⟨_, rfl⟩
        have HR := Lib.hid hr
        have C0 := Lib.hid (show w5.cell? ⟨w.heap.size, 0, none⟩ = some (.int .i64 k.length) from (K1.out.below HA5.out.low).cell 0)
        have e0 : wr.cell? ⟨w.heap.size, 0, none⟩ = some (.int .i64 k.length) := (K1.out.below hA.out.low).cell 0
        have C1 := Lib.hid (show w5.cell? ⟨w1.heap.size, n, none⟩ = some (.slice Av f.length cv) from HA5.out.cell HV.out)
        have e1 : wr.cell? ⟨w1.heap.size, n, none⟩ = some (.slice Av f.length cv) := hA.out.cell HV.out
        have C2 := Lib.hid (show w5.cell? ⟨gl, ol + i, none⟩ = some (.int .i64 x) from cell_onV YX.out HA5.out.low)
        have e2 : wr.cell? ⟨gl, ol + i, none⟩ = some (.int .i64 x) := cell_onV YX.out hA.out.low
        obtain ⟨q, hq⟩ : ∃ q, f.length = q := ⟨_, rfl⟩
        rw [hq] at e1
        have HQ := Lib.hid hq
        have C1 := Lib.hid (show w5.cell? ⟨w1.heap.size, n, none⟩ = some (.slice Av q cv) by rw [← hq]; exact C1.out)
        have HRM := Lib.hid (show _ from HRM.out)
        rw [hq, hr] at HRM
        have hnai : (n : Int) < (a : Int) := by omega
        clear hv hf hf1 hr hq
        refine wp_region_held_drew (S := (fun w' => w'.cell? ⟨w.heap.size, 0, none⟩ = some (.int .i64 k.length) ∧ w'.cell? ⟨w1.heap.size, n, none⟩ = some (.slice Av q cv) ∧ w'.cell? ⟨gl, ol + i, none⟩ = some (.int .i64 x))) (by kernel_rfl) ?_ (fun hHeld => ?_)
        · (try dsimp only); go_keep
        rw [← HW5.out] at hHeld ⊢
        clear e0 e1 e2
        refine wpAnyH_take (i := 0) (v := ?_) (by simp only [List.getElem?_toArray, List.getElem?_cons_zero]; rfl) (by kernel_rfl) (by kernel_rfl) (by kernel_rfl) (by exact fun _ _ _ h => h) (Or.inl ⟨by rfl, ?_⟩) (by assumption) ?_; rotate_left; focus (intro w hSw; (try dsimp only at hSw); first | (go_simp; done) | (go_simp; with_reducible rfl))
        (try simp only [Act.put]); (try simp only [List.setIfInBounds_toArray]); (try simp only [List.set_cons_succ]); (try simp only [List.set_cons_zero])
        refine wpAnyH_take (i := 1) (v := ?_) (by simp only [List.getElem?_toArray, List.getElem?_cons_succ, List.getElem?_cons_zero]; rfl) (by kernel_rfl) (by kernel_rfl) (by kernel_rfl) (by exact fun _ _ _ h => h) (Or.inl ⟨by rfl, ?_⟩) (by assumption) ?_; rotate_left; focus (intro w hSw; (try dsimp only at hSw); first | (go_simp; done) | (go_simp; with_reducible rfl))
        (try simp only [Act.put]); (try simp only [List.setIfInBounds_toArray]); (try simp only [List.set_cons_succ]); (try simp only [List.set_cons_zero])
        refine wpAnyH_take (i := 2) (v := ?_) (by simp only [List.getElem?_toArray, List.getElem?_cons_succ, List.getElem?_cons_zero]; rfl) (by kernel_rfl) (by kernel_rfl) (by kernel_rfl) (by exact fun _ _ _ h => h) (Or.inl ⟨by rfl, ?_⟩) (by assumption) ?_; rotate_left; focus (intro w hSw; (try dsimp only at hSw); first | (go_simp; done) | (go_simp; with_reducible rfl))
        (try simp only [Act.put]); (try simp only [List.setIfInBounds_toArray]); (try simp only [List.set_cons_succ]); (try simp only [List.set_cons_zero])
        refine wpAnyH_ready (rs := [3]) (by kernel_rfl) (by simp) ?_
        refine AllReadyH.cons rfl (fun K hK => ?_) AllReadyH.nil
        rw [if_pos (by rfl)]
        go_simp
        go_at_call 44
        refine ISI.out.mono ?_
        rw [HIX.out]
        rintro e w6 ⟨rfl, rfl⟩
        go_simp
        refine hK.out _ _ ⟨C0.out, C1.out, C2.out⟩ (fun hHeld => ?_)
        clear hK K
        (try simp only [Act.put]); (try simp only [List.setIfInBounds_toArray]); (try simp only [List.set_cons_succ]); (try simp only [List.set_cons_zero])
        refine wpAnyH_take (i := 4) (v := ?_) (by simp only [List.getElem?_toArray, List.getElem?_cons_succ, List.getElem?_cons_zero]; rfl) (by kernel_rfl) (by kernel_rfl) (by kernel_rfl) (by exact fun _ _ _ h => h) (Or.inl ⟨by rfl, ?_⟩) (by assumption) ?_; rotate_left; focus (intro w hSw; (try dsimp only at hSw); first | (go_simp; done) | (go_simp; with_reducible rfl))
        (try simp only [Act.put]); (try simp only [List.setIfInBounds_toArray]); (try simp only [List.set_cons_succ]); (try simp only [List.set_cons_zero])
        refine wpAnyH_take (i := 5) (v := ?_) (by simp only [List.getElem?_toArray, List.getElem?_cons_succ, List.getElem?_cons_zero]; rfl) (by kernel_rfl) (by kernel_rfl) (by kernel_rfl) (by exact fun _ _ _ h => h) (Or.inl ⟨by rfl, ?_⟩) (by assumption) ?_; rotate_left; focus (intro w hSw; (try dsimp only at hSw); first | (go_simp; done) | (go_simp; with_reducible rfl))
        (try simp only [Act.put]); (try simp only [List.setIfInBounds_toArray]); (try simp only [List.set_cons_succ]); (try simp only [List.set_cons_zero])
        refine wpAnyH_take (i := 6) (v := ?_) (by simp only [List.getElem?_toArray, List.getElem?_cons_succ, List.getElem?_cons_zero]; rfl) (by kernel_rfl) (by kernel_rfl) (by kernel_rfl) (by exact fun _ _ _ h => h) (Or.inl ⟨by rfl, ?_⟩) (by assumption) ?_; rotate_left; focus (intro w hSw; (try dsimp only at hSw); first | (go_simp; done) | (go_simp; with_reducible rfl))
        (try simp only [Act.put]); (try simp only [List.setIfInBounds_toArray]); (try simp only [List.set_cons_succ]); (try simp only [List.set_cons_zero])
        refine wpAnyH_take (i := 7) (v := ?_) (by simp only [List.getElem?_toArray, List.getElem?_cons_succ, List.getElem?_cons_zero]; rfl) (by kernel_rfl) (by kernel_rfl) (by kernel_rfl) (by exact fun _ _ _ h => h) (Or.inl ⟨by rfl, ?_⟩) (by assumption) ?_; rotate_left; focus (intro w hSw; (try dsimp only at hSw); first | (go_simp; done) | (go_simp; with_reducible rfl))
        (try simp only [Act.put]); (try simp only [List.setIfInBounds_toArray]); (try simp only [List.set_cons_succ]); (try simp only [List.set_cons_zero])
        refine wpAnyH_take (i := 8) (v := ?_) (by simp only [List.getElem?_toArray, List.getElem?_cons_succ, List.getElem?_cons_zero]; rfl) (by kernel_rfl) (by kernel_rfl) (by kernel_rfl) (by exact fun _ _ _ h => h) (Or.inl ⟨by rfl, ?_⟩) (by assumption) ?_; rotate_left; focus (intro w hSw; (try dsimp only at hSw); first | (go_simp; done) | (go_simp; with_reducible rfl))
        (try simp only [Act.put]); (try simp only [List.setIfInBounds_toArray]); (try simp only [List.set_cons_succ]); (try simp only [List.set_cons_zero])
        refine wpAnyH_take (i := 9) (v := ?_) (by simp only [List.getElem?_toArray, List.getElem?_cons_succ, List.getElem?_cons_zero]; rfl) (by kernel_rfl) (by kernel_rfl) (by kernel_rfl) (by exact fun _ _ _ h => h) (Or.inl ⟨by rfl, ?_⟩) (by assumption) ?_; rotate_left; focus (intro w hSw; (try dsimp only at hSw); first | (go_simp; done) | (go_simp; with_reducible rfl))
        (try simp only [Act.put]); (try simp only [List.setIfInBounds_toArray]); (try simp only [List.set_cons_succ]); (try simp only [List.set_cons_zero])
        refine wpAnyH_take (i := 10) (v := ?_) (by simp only [List.getElem?_toArray, List.getElem?_cons_succ, List.getElem?_cons_zero]; rfl) (by kernel_rfl) (by kernel_rfl) (by kernel_rfl) (by exact fun _ _ _ h => h) (Or.inl ⟨by rfl, ?_⟩) (by assumption) ?_; rotate_left; focus (intro w hSw; (try dsimp only at hSw); first | (go_simp; done) | (go_simp; with_reducible rfl))
        (try simp only [Act.put]); (try simp only [List.setIfInBounds_toArray]); (try simp only [List.set_cons_succ]); (try simp only [List.set_cons_zero])
        refine wpAnyH_take (i := 11) (v := ?_) (by simp only [List.getElem?_toArray, List.getElem?_cons_succ, List.getElem?_cons_zero]; rfl) (by kernel_rfl) (by kernel_rfl) (by kernel_rfl) (by exact fun _ _ _ h => h) (Or.inl ⟨by rfl, ?_⟩) (by assumption) ?_; rotate_left; focus (intro w hSw; (try dsimp only at hSw); first | (go_simp; done) | (go_simp; with_reducible rfl))
        (try simp only [Act.put]); (try simp only [List.setIfInBounds_toArray]); (try simp only [List.set_cons_succ]); (try simp only [List.set_cons_zero])
        refine wpAnyH_take (i := 12) (v := ?_) (by simp only [List.getElem?_toArray, List.getElem?_cons_succ, List.getElem?_cons_zero]; rfl) (by kernel_rfl) (by kernel_rfl) (by kernel_rfl) (by exact fun _ _ _ h => h) (Or.inl ⟨by rfl, ?_⟩) (by assumption) ?_; rotate_left; focus (intro w hSw; (try dsimp only at hSw); first | (go_simp; done) | (go_simp; with_reducible rfl))
        (try simp only [Act.put]); (try simp only [List.setIfInBounds_toArray]); (try simp only [List.set_cons_succ]); (try simp only [List.set_cons_zero])
        refine wpAnyH_take (i := 13) (v := ?_) (by simp only [List.getElem?_toArray, List.getElem?_cons_succ, List.getElem?_cons_zero]; rfl) (by kernel_rfl) (by kernel_rfl) (by kernel_rfl) (by exact fun _ _ _ h => h) (Or.inl ⟨by rfl, ?_⟩) (by assumption) ?_; rotate_left; focus (intro w hSw; (try dsimp only at hSw); first | (go_simp; done) | (go_simp; with_reducible rfl))
        (try simp only [Act.put]); (try simp only [List.setIfInBounds_toArray]); (try simp only [List.set_cons_succ]); (try simp only [List.set_cons_zero])
        refine wpAnyH_take (i := 14) (v := ?_) (by simp only [List.getElem?_toArray, List.getElem?_cons_succ, List.getElem?_cons_zero]; rfl) (by kernel_rfl) (by kernel_rfl) (by kernel_rfl) (by exact fun _ _ _ h => h) (Or.inl ⟨by rfl, ?_⟩) (by assumption) ?_; rotate_left; focus (intro w hSw; (try dsimp only at hSw); first | (go_simp; done) | (go_simp; with_reducible rfl))
        (try simp only [Act.put]); (try simp only [List.setIfInBounds_toArray]); (try simp only [List.set_cons_succ]); (try simp only [List.set_cons_zero])
        refine wpAnyH_take (i := 15) (v := ?_) (by simp only [List.getElem?_toArray, List.getElem?_cons_succ, List.getElem?_cons_zero]; rfl) (by kernel_rfl) (by kernel_rfl) (by kernel_rfl) (by exact fun _ _ _ h => h) (Or.inl ⟨by rfl, ?_⟩) (by assumption) ?_; rotate_left; focus (intro w hSw; (try dsimp only at hSw); first | (go_simp; done) | (go_simp; with_reducible rfl))
        (try simp only [Act.put]); (try simp only [List.setIfInBounds_toArray]); (try simp only [List.set_cons_succ]); (try simp only [List.set_cons_zero])
        refine wpAnyH_ready (rs := [16]) (by kernel_rfl) (by simp) ?_
        refine AllReadyH.cons rfl (fun K hK => ?_) AllReadyH.nil
        rw [if_pos (by rfl)]
        go_simp
        go_at_call 45
        refine HRM.out.mono ?_
        rintro e w7 ⟨rfl, hb7⟩
        have A7 := Lib.hid (HA5.out.below hb7)
        go_simp
        refine hK.out _ _ ⟨cell_onV C0.out hb7, cell_onV C1.out hb7, cell_onV C2.out hb7⟩ (fun hHeld => ?_)
        clear hK K hb7
        (try simp only [Act.put]); (try simp only [List.setIfInBounds_toArray]); (try simp only [List.set_cons_succ]); (try simp only [List.set_cons_zero])
        refine wpAnyH_take (i := 17) (v := ?_) (by simp only [List.getElem?_toArray, List.getElem?_cons_succ, List.getElem?_cons_zero]; rfl) (by kernel_rfl) (by kernel_rfl) (by kernel_rfl) (by exact fun _ _ _ h => h) (Or.inl ⟨by rfl, ?_⟩) (by assumption) ?_; rotate_left; focus (intro w hSw; (try dsimp only at hSw); first | (go_simp; done) | (go_simp; with_reducible rfl))
        (try simp only [Act.put]); (try simp only [List.setIfInBounds_toArray]); (try simp only [List.set_cons_succ]); (try simp only [List.set_cons_zero])
        refine wpAnyH_take (i := 18) (v := ?_) (by simp only [List.getElem?_toArray, List.getElem?_cons_succ, List.getElem?_cons_zero]; rfl) (by kernel_rfl) (by kernel_rfl) (by kernel_rfl) (by exact fun _ _ _ h => h) (Or.inl ⟨by rfl, ?_⟩) (by assumption) ?_; rotate_left; focus (intro w hSw; (try dsimp only at hSw); first | (go_simp; done) | (go_simp; with_reducible rfl))
        (try simp only [Act.put]); (try simp only [List.setIfInBounds_toArray]); (try simp only [List.set_cons_succ]); (try simp only [List.set_cons_zero])
        refine wpAnyH_done (by kernel_rfl) ?_ _
        clear hHeld
        cases r with
        | false =>
          have E := Lib.hid (packB_over (k := k) H2.out HX.out HY.out HT.out (by rw [Int.toNat_natCast, ← HF1.out]; exact of_decide_eq_false HR.out))
          go_wp2
          go_ret
          exact ⟨ret_bool E.out.symm, B1.out.trans (A7.out.low.mono B1.out.size)⟩
        | true =>
          have IN := Lib.hid (IsTo.next hT.out HX.out HY.out HT.out (by rw [Int.toNat_natCast, ← HF1.out]; exact of_decide_eq_true HR.out))
          have FN := Lib.hid (FillTo.next hF.out HX.out HY.out HFF.out hxb)
          have yx : w7.cell? ⟨gl, ol + i, none⟩ = some (.int .i64 x) := cell_onV YX.out A7.out.low
          have A8 := Lib.hid A7.out.drew
          go_upto_region 9 with fail
          go_still_tail 7, (by kernel_rfl)
          change wpList _ _ _ _ _ w7.drew
          obtain ⟨w8, hw8⟩ : ∃ W, W = w7.drew := ⟨_, rfl⟩
          rw [← hw8] at A8 ⊢
          clear hw8 yx
          go_wp2_with fail
          refine (implPush x A8.out HFF.out (by have := HQ.out; omega)).mono ?_
          rintro e w9 ⟨v9, rfl, hA9⟩
          have A9 := Lib.hid hA9
          clear hA9
          go_wp2
          go_roundw
          case rel => exact ⟨i + 1, _, _, by omega, by go_num, A9, Lib.hid (by rw [List.length_set]; exact hL.out), FN, IN⟩
          case measure => simp [intOf]; omega
end Go.Proofs.Ytphagahhhfiiaaa
