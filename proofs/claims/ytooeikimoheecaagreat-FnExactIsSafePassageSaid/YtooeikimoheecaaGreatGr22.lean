
/- What ExactIsSafePassage and ExactSailRoute and ExactFirstSail rests on, part 22: contracts and mathematics. -/
import Derived.Test.YtooeikimoheecaaGreatGr17
import Derived.Test.YtooeikimoheecaaGreatGr13
import Derived.Test.YtooeikimoheecaaGreatGr12
import Derived.BigRegionIn
import Derived.Sort.CutIn
import Derived.Test.YtooeikimoheecaaGreatGr1
import Derived.Test.YtooeikimoheecaaGreatGr21
import Derived.Test.YtooeikimoheecaaGreatGr2
import Derived.Test.YtooeikimoheecaaGreatGr14
import Derived.Test.YtooeikimoheecaaGreatGr18
namespace Go.Proofs.YtooeikimoheecaaGreat
open Go.RowKit Go.Shelf
set_option maxRecDepth 100000
attribute [local go_sem] Oper.semAt_some
/-- The marked minutes, a window each. -/
def minP (f : Nat → Bool) (k : Nat) : List WindowD := (List.range k).flatMap fun j => if f j = true then [⟨j, j⟩] else []
theorem minP_next (f : Nat → Bool) (k : Nat) : minP f (k + 1) = minP f k ++ (if f k = true then [⟨k, k⟩] else []) := by
  unfold minP; rw [List.range_succ, List.flatMap_append]; simp
theorem minP_yes {f : Nat → Bool} {k : Nat} (h : f k = true) : minP f (k + 1) = minP f k ++ [⟨k, k⟩] := by rw [minP_next, if_pos h]
theorem minP_no {f : Nat → Bool} {k : Nat} (h : f k = false) : minP f (k + 1) = minP f k := by rw [minP_next, if_neg (by rw [h]; simp), List.append_nil]
theorem minP_len (f : Nat → Bool) (k : Nat) : (minP f k).length ≤ k := by
  induction k with
  | zero => simp [minP]
  | succ k ih =>
    cases h : f k with
    | true => rw [minP_yes h]; simp; omega
    | false => rw [minP_no h]; omega
theorem minP_mem (f : Nat → Bool) : ∀ k x, x ∈ minP f k ↔ ∃ j : Nat, j < k ∧ f j = true ∧ x = ⟨j, j⟩ := by
  intro k
  induction k with
  | zero => intro x; simp [minP]
  | succ k ih =>
    intro x
    cases h : f k with
    | true =>
      rw [minP_yes h, List.mem_append, ih, List.mem_singleton]
      constructor
      · rintro (⟨j, h1, h2, h3⟩ | h1)
        · exact ⟨j, by omega, h2, h3⟩
        · exact ⟨k, by omega, h, h1⟩
      · rintro ⟨j, h1, h2, h3⟩
        by_cases e : j = k
        · subst e; exact .inr h3
        · exact .inl ⟨j, by omega, h2, h3⟩
    | false =>
      rw [minP_no h, ih]
      constructor
      · rintro ⟨j, h1, h2, h3⟩; exact ⟨j, by omega, h2, h3⟩
      · rintro ⟨j, h1, h2, h3⟩
        by_cases e : j = k
        · subst e; rw [h] at h2; cases h2
        · exact ⟨j, by omega, h2, h3⟩
theorem minP_sorted (f : Nat → Bool) : ∀ k, (minP f k).Pairwise (fun x y => x.fr ≤ y.fr) := by
  intro k
  induction k with
  | zero => simp [minP]
  | succ k ih =>
    cases h : f k with
    | true =>
      rw [minP_yes h, List.pairwise_append]
      refine ⟨ih, List.pairwise_singleton _ _, fun a ha b hb => ?_⟩
      obtain ⟨j, h1, _, h3⟩ := (minP_mem f k a).1 ha
      rw [List.mem_singleton.1 hb, h3]
      simp only
      omega
    | false => rw [minP_no h]; exact ih
theorem minP_merge (f : Nat → Bool) : mergeF (minP f 2881) = ofMarks f 2881 := by
  refine merge_eq_marks (minP_sorted f 2881) (fun x hx => ?_) (fun j hj => ?_)
  · obtain ⟨j, h1, _, h3⟩ := (minP_mem f 2881 x).1 hx
    rw [h3]; simp only; omega
  · constructor
    · intro h
      exact ⟨⟨j, j⟩, (minP_mem f 2881 _).2 ⟨j, hj, h, rfl⟩, by simp, by simp⟩
    · rintro ⟨x, hx, h1, h2⟩
      obtain ⟨i, _, hi, e⟩ := (minP_mem f 2881 x).1 hx
      rw [e] at h1 h2
      simp only at h1 h2
      obtain rfl : i = j := by omega
      exact hi
theorem below_grown {w w' : World} (h : Below w.heap.size w w') : w.grownBy w' none := ⟨h.os, h.tape, h.output, h.size, fun k hk _ => h.block k hk⟩
/-- The minutes at which an end of the band reaches a level. -/
def wetF (hi : Bool) (m : Int) (l : List PartD) (s : List SurgeD) (level : Int) (j : Nat) : Bool := decide (level ≤ endI hi m l s (j : Int))
def wetL (hi : Bool) (m : Int) (l : List PartD) (s : List SurgeD) (level : Int) : List WindowD := if fcB m l s = true then ofMarks (wetF hi m l s level) 2881 else []
theorem wetL_ok {hi : Bool} {m : Int} {l : List PartD} {s : List SurgeD} {level : Int} (h : fcB m l s = true) : wetL hi m l s level = ofMarks (wetF hi m l s level) 2881 := if_pos h
theorem wetL_bad {hi : Bool} {m : Int} {l : List PartD} {s : List SurgeD} {level : Int} (h : fcB m l s = false) : wetL hi m l s level = [] := if_neg (by rw [h]; simp)
theorem wetL_len (hi : Bool) (m : Int) (l : List PartD) (s : List SurgeD) (level : Int) : (wetL hi m l s level).length ≤ 2881 := by
  unfold wetL; split
  · exact ofMarks_len _ _
  · simp
/-- What the program's levelAtEnd answers at one of the ends. -/
def EndAt (hi : Bool) (e0 : Int) : Prop := ∀ (m : Int) (v u : Value) (l : List PartD) (s : List SurgeD) (t : Int) (w : World), SlP w v l → SlSurge w u s →
    Calls Tryz.prog 151 #[.agg #[.int .i64 m, v, u], .int .i64 t, .int .i64 e0] w fun e w' => e = .returned (.int .i64 (endI hi m l s t)) ∧ Below w.heap.size w w'
theorem endLo : EndAt false 0 := levelAtEndLo
set_option maxHeartbeats 8000000 in
theorem minutes1 (hi : Bool) (e0 : Int) (hEnd : EndAt hi e0) (m : Int) (A A' : Option Addr) (c c' : Nat) (l : List PartD) (s : List SurgeD) (level : Int) (Bf Be Bl : Nat) (w : World) (hF : FBox w Bf m (.slice A l.length c) (.slice A' s.length c') l s)
    (he : w.cell? ⟨Be, 0, none⟩ = some (.int .i64 e0)) (hlv : w.cell? ⟨Bl, 0, none⟩ = some (.int .i64 level)) :
    SeqW 150 #[.pointer (some ⟨Bf, 0, none⟩), .pointer (some ⟨Be, 0, none⟩), .pointer (some ⟨Bl, 0, none⟩)] (Below w.heap.size) 2881 (minP (wetF hi m l s level) 2881) w := by
  intro n hn lp J Jx W hW hJ hJx hY h0
  have HS := Lib.hid (fun (W' : World) (hb : Below w.heap.size w W') => show (fun w' => w'.cell? ⟨Bf, 0, none⟩ = some (.int .i64 m) ∧ w'.cell? ⟨Bf, 1, none⟩ = some (.slice A l.length c) ∧ w'.cell? ⟨Bf, 2, none⟩ = some (.slice A' s.length c') ∧ w'.cell? ⟨Be, 0, none⟩ = some (.int .i64 e0) ∧ w'.cell? ⟨Bl, 0, none⟩ = some (.int .i64 level) ∧ Hid (Below w.heap.size w w')) W' from ⟨cell_on hF.1 hb, cell_on hF.2.1 hb, cell_on hF.2.2.1 hb, cell_on he hb, cell_on hlv hb, Lib.hid hb⟩)
  have HP := Lib.hid hF.2.2.2.1
  have HU := Lib.hid hF.2.2.2.2
  have HJ := Lib.hid hJ
  have HY := Lib.hid hY
  have H0 := Lib.hid h0
  have HW := Lib.hid hW
  have HEND := Lib.hid hEnd
  clear hJ hJx hY h0 hW hF he hlv hEnd
  change CallsIn Fence.wide n Tryz.prog 150 #[.func (.yield lp) #[] #[], .pointer (some ⟨Bf, 0, none⟩), .pointer (some ⟨Be, 0, none⟩), .pointer (some ⟨Bl, 0, none⟩)] W _
  refine callsIn_of_wp Tryz.func150 rfl trivial ?_ rfl
  simp only [Tryz.ntmps150, List.size_toArray, List.length_cons, List.length_nil, Nat.reduceAdd, Nat.reduceSub, Array.replicate_succ, Array.replicate_zero, List.push_toArray, List.append_toArray, List.nil_append, List.cons_append]
  gi_wp2
  gi_loopw [6] (fun i wr => ∃ (k : Nat) (acc : List WindowD), k ≤ 2881 ∧ i = .int .i64 k ∧ Hid (minP (wetF hi m l s level) k = acc) ∧ Hid (J acc wr) ∧ Hid (Below w.heap.size w wr) ∧ w.heap.size ≤ wr.heap.size) (fun i _ => 2881 - (intOf i).toNat)
  case atStart => exact ⟨0, [], Nat.zero_le _, rfl, Lib.hid rfl, H0, HW, HW.out.size⟩
  case round =>
    obtain ⟨k, acc, hk, rfl, hE, hJs, hb, hsz⟩ := hrel
    have hgl := minP_len (wetF hi m l s level) k
    rw [hE.out] at hgl
    by_cases hlt : k < 2881
    rotate_left
    · obtain rfl : k = 2881 := by omega
      gi_wp2
      go_end0
      first
        | exact ⟨⟨_, rfl⟩, .inl ⟨_, hE.out.symm, hJs.out⟩⟩
        | exact ⟨⟨_, rfl⟩, .inl (by rw [hE.out]; exact hJs.out)⟩
    · gi_upto_region 3 with fail
      gi_cut [22] from 7 (fun b wd => ∃ b' : Bool, b = .bool b' ∧ Hid (b' = true → ∃ pre, Jx pre wd) ∧ Hid (b' = false → ∃ acc', minP (wetF hi m l s level) (k + 1) = acc' ∧ J acc' wd ∧ Below w.heap.size w wd))
      case first =>
        rename_i Jc Kc hJc hKc
        by_cases hwet : level ≤ endI hi m l s (k : Int)
        · have EF := Lib.hid (minP_yes (f := wetF hi m l s level) (k := k) (decide_eq_true hwet))
          rw [hE.out] at EF
          refine wpIn_region_headIn (S := fun w' => w'.cell? ⟨Bf, 0, none⟩ = some (.int .i64 m) ∧ w'.cell? ⟨Bf, 1, none⟩ = some (.slice A l.length c) ∧ w'.cell? ⟨Bf, 2, none⟩ = some (.slice A' s.length c') ∧ w'.cell? ⟨Be, 0, none⟩ = some (.int .i64 e0) ∧ w'.cell? ⟨Bl, 0, none⟩ = some (.int .i64 level) ∧ Hid (Below w.heap.size w w')) 5 9 rfl (by kernel_rfl) (by kernel_rfl) ?_ (fun hHeld => ?_)
          · exact HS.out _ hb.out.drew
          refine heldTo_take (lets_wide _ _) (by kernel_rfl) 5 (i := 0) (v := ?_) (by kernel_rfl) (by simp only [List.getElem?_toArray, List.getElem?_cons_zero]; rfl) (by kernel_rfl) (by kernel_rfl) (by kernel_rfl) (by exact fun _ _ _ h => h) (Or.inl ⟨by rfl, ?_⟩) (by assumption) ?_
          rotate_left
          focus (intro w' hSw; (try dsimp only at hSw); first | (go_simp; done) | (go_simp; with_reducible rfl))
          try simp only [Act.put, List.setIfInBounds_toArray, List.set_cons_zero, List.set_cons_succ]
          refine heldTo_take (lets_wide _ _) (by kernel_rfl) 5 (i := 1) (v := ?_) (by kernel_rfl) (by simp only [List.getElem?_toArray, List.getElem?_cons_succ, List.getElem?_cons_zero]; rfl) (by kernel_rfl) (by kernel_rfl) (by kernel_rfl) (by exact fun _ _ _ h => h) (Or.inl ⟨by rfl, ?_⟩) (by assumption) ?_
          rotate_left
          focus (intro w' hSw; (try dsimp only at hSw); first | (go_simp; done) | (go_simp; with_reducible rfl))
          try simp only [Act.put, List.setIfInBounds_toArray, List.set_cons_zero, List.set_cons_succ]
          refine heldTo_take (lets_wide _ _) (by kernel_rfl) 5 (i := 2) (v := ?_) (by kernel_rfl) (by simp only [List.getElem?_toArray, List.getElem?_cons_succ, List.getElem?_cons_zero]; rfl) (by kernel_rfl) (by kernel_rfl) (by kernel_rfl) (by exact fun _ _ _ h => h) (Or.inl ⟨by rfl, ?_⟩) (by assumption) ?_
          rotate_left
          focus (intro w' hSw; (try dsimp only at hSw); first | (go_simp; done) | (go_simp; with_reducible rfl))
          try simp only [Act.put, List.setIfInBounds_toArray, List.set_cons_zero, List.set_cons_succ]
          refine heldTo_take (lets_wide _ _) (by kernel_rfl) 5 (i := 4) (v := ?_) (by kernel_rfl) (by simp only [List.getElem?_toArray, List.getElem?_cons_succ, List.getElem?_cons_zero]; rfl) (by kernel_rfl) (by kernel_rfl) (by kernel_rfl) (by exact fun _ _ _ h => h) (Or.inl ⟨by rfl, ?_⟩) (by assumption) ?_
          rotate_left
          focus (intro w' hSw; (try dsimp only at hSw); first | (go_simp; done) | (go_simp; with_reducible rfl))
          try simp only [Act.put, List.setIfInBounds_toArray, List.set_cons_zero, List.set_cons_succ]
          refine heldTo_one (i := 3) (by kernel_rfl) (by simp only [List.getElem?_toArray, List.getElem?_cons_succ, List.getElem?_cons_zero]; rfl) (by rfl) (fun K hK => ?_)
          unfold Oper.wpIn
          refine ⟨fun _ _ => trivial, ?_⟩
          rw [Oper.semAt_eq _ _ _ (fun c h => by cases h)]
          go_simp
          have kB := Lib.hid hHeld.2.2.2.2.2.out
          refine callsIn_wide.2 ((HEND.out m _ _ l s (k : Int) _ (HP.out.below kB.out) (HU.out.below kB.out)).mono ?_)
          rintro e w1 ⟨rfl, hbk⟩
          have B1 := Lib.hid (kB.out.trans (hbk.mono kB.out.size))
          have J1 := Lib.hid (HJ.out _ _ w1 none hJs.out (below_grown (((Below.refl wr.heap.size wr).drew).trans hbk)) (fun r e => by cases e))
          clear hbk kB hHeld
          try dsimp only
          refine hK.out _ _ ?_ (fun hHeld => ?_)
          · exact HS.out _ B1.out
          clear hK K
          try simp only [Act.put, List.setIfInBounds_toArray, List.set_cons_zero, List.set_cons_succ]
          refine heldTo_end ?_
          try dsimp only
          clear hHeld
          obtain ⟨fn, tmps, assign, body, hy, hR⟩ := HY.out _ ⟨k, k⟩ w1 J1.out (by omega)
          have HR := Lib.hid hR
          clear hR
          dsimp only at hy
          refine wpAnyIn_take (i := 5) (v := ?_) rfl (by simp only [List.getElem?_toArray, List.getElem?_cons_succ, List.getElem?_cons_zero]; rfl) (by kernel_rfl) (by kernel_rfl) (by kernel_rfl) (by exact fun _ _ _ h => h) ⟨Or.inl ⟨by rfl, ?_⟩, fun _ => rfl⟩ ?_
          rotate_left
          focus (intro w'; first | (go_simp; done) | (go_simp; with_reducible rfl))
          try simp only [Act.put, List.setIfInBounds_toArray, List.set_cons_zero, List.set_cons_succ]
          refine wpAnyIn_take (i := 6) (v := ?_) rfl (by simp only [List.getElem?_toArray, List.getElem?_cons_succ, List.getElem?_cons_zero]; rfl) (by kernel_rfl) (by kernel_rfl) (by kernel_rfl) (by exact fun _ _ _ h => h) ⟨Or.inl ⟨by rfl, ?_⟩, fun _ => rfl⟩ ?_
          rotate_left
          focus (intro w'; first | (go_simp; done) | (go_simp; with_reducible rfl))
          try simp only [Act.put, List.setIfInBounds_toArray, List.set_cons_zero, List.set_cons_succ]
          refine wpAnyIn_take (i := 7) (v := ?_) rfl (by simp only [List.getElem?_toArray, List.getElem?_cons_succ, List.getElem?_cons_zero]; rfl) (by kernel_rfl) (by kernel_rfl) (by kernel_rfl) (by exact fun _ _ _ h => h) ⟨Or.inl ⟨by rfl, ?_⟩, fun _ => rfl⟩ ?_
          rotate_left
          focus (intro w'; first | (go_simp; done) | (go_simp; with_reducible rfl))
          try simp only [Act.put, List.setIfInBounds_toArray, List.set_cons_zero, List.set_cons_succ]
          refine wpAnyIn_take (i := 8) (v := ?_) rfl (by simp only [List.getElem?_toArray, List.getElem?_cons_succ, List.getElem?_cons_zero]; rfl) (by kernel_rfl) (by kernel_rfl) (by kernel_rfl) (by exact fun _ _ _ h => h) ⟨Or.inl ⟨by rfl, ?_⟩, fun _ => rfl⟩ ?_
          rotate_left
          focus (intro w'; first | (go_simp; done) | (go_simp; with_reducible rfl))
          try simp only [Act.put, List.setIfInBounds_toArray, List.set_cons_zero, List.set_cons_succ]
          refine wpAnyIn_take (i := 9) (v := ?_) rfl (by simp only [List.getElem?_toArray, List.getElem?_cons_succ, List.getElem?_cons_zero]; rfl) (by kernel_rfl) (by kernel_rfl) (by kernel_rfl) (by exact fun _ _ _ h => h) ⟨Or.inl ⟨by rfl, ?_⟩, fun _ => rfl⟩ ?_
          rotate_left
          focus (intro w'; first | (go_simp; done) | (go_simp; with_reducible rfl))
          try simp only [Act.put, List.setIfInBounds_toArray, List.set_cons_zero, List.set_cons_succ]
          refine wpAnyIn_take (i := 10) (v := ?_) rfl (by simp only [List.getElem?_toArray, List.getElem?_cons_succ, List.getElem?_cons_zero]; rfl) (by kernel_rfl) (by kernel_rfl) (by kernel_rfl) (by exact fun _ _ _ h => h) ⟨Or.inl ⟨by rfl, ?_⟩, fun _ => rfl⟩ ?_
          rotate_left
          focus (intro w'; first | (go_simp; done) | (go_simp; with_reducible rfl))
          try simp only [Act.put, List.setIfInBounds_toArray, List.set_cons_zero, List.set_cons_succ]
          refine anyIn_one (i := 11) (by kernel_rfl) (by simp only [List.getElem?_toArray, List.getElem?_cons_succ, List.getElem?_cons_zero]; rfl) (by rfl) (fun K hK => ?_)
          unfold Oper.wpIn
          refine ⟨fun _ _ => trivial, ?_⟩
          rw [Oper.semAt_eq _ _ _ (fun c h => by cases h)]
          go_simp
          refine HR.out.mono ?_
          rintro e W3 (⟨rfl, hJ3, hk3⟩ | ⟨rfl, hJx3⟩)
          · skip
            have H3 := Lib.hid hJ3
            have HB3 := Lib.hid (B1.out.trans hk3)
            clear hJ3 hk3 hy
            try dsimp only
            refine hK.out _ _ ?_
            clear hK K
            try simp only [Act.put, List.setIfInBounds_toArray, List.set_cons_zero, List.set_cons_succ]
            refine wpAnyIn_take (i := 12) (v := ?_) rfl (by simp only [List.getElem?_toArray, List.getElem?_cons_succ, List.getElem?_cons_zero]; rfl) (by kernel_rfl) (by kernel_rfl) (by kernel_rfl) (by exact fun _ _ _ h => h) ⟨Or.inl ⟨by rfl, ?_⟩, fun _ => rfl⟩ ?_
            rotate_left
            focus (intro w'; first | (go_simp; done) | (go_simp; with_reducible rfl))
            try simp only [Act.put, List.setIfInBounds_toArray, List.set_cons_zero, List.set_cons_succ]
            refine wpAnyIn_take (i := 13) (v := ?_) rfl (by simp only [List.getElem?_toArray, List.getElem?_cons_succ, List.getElem?_cons_zero]; rfl) (by kernel_rfl) (by kernel_rfl) (by kernel_rfl) (by exact fun _ _ _ h => h) ⟨Or.inl ⟨by rfl, ?_⟩, fun _ => rfl⟩ ?_
            rotate_left
            focus (intro w'; first | (go_simp; done) | (go_simp; with_reducible rfl))
            try simp only [Act.put, List.setIfInBounds_toArray, List.set_cons_zero, List.set_cons_succ]
            refine wpAnyIn_done (by kernel_rfl) ?_ _
            dsimp only [onlyN]
            refine hKc _ _ (Met.intro (hJc _ _ ?_))
            repeat apply Exists.intro
            refine ⟨?rel, rfl⟩
            case rel => exact ⟨false, rfl, Lib.hid (fun h => by cases h), Lib.hid (fun _ => ⟨_, EF.out, H3.out, HB3.out⟩)⟩
          · skip
            have H3 := Lib.hid hJx3
            clear hJx3 hy
            try dsimp only
            refine hK.out _ _ ?_
            clear hK K
            try simp only [Act.put, List.setIfInBounds_toArray, List.set_cons_zero, List.set_cons_succ]
            refine wpAnyIn_take (i := 12) (v := ?_) rfl (by simp only [List.getElem?_toArray, List.getElem?_cons_succ, List.getElem?_cons_zero]; rfl) (by kernel_rfl) (by kernel_rfl) (by kernel_rfl) (by exact fun _ _ _ h => h) ⟨Or.inl ⟨by rfl, ?_⟩, fun _ => rfl⟩ ?_
            rotate_left
            focus (intro w'; first | (go_simp; done) | (go_simp; with_reducible rfl))
            try simp only [Act.put, List.setIfInBounds_toArray, List.set_cons_zero, List.set_cons_succ]
            refine wpAnyIn_take (i := 13) (v := ?_) rfl (by simp only [List.getElem?_toArray, List.getElem?_cons_succ, List.getElem?_cons_zero]; rfl) (by kernel_rfl) (by kernel_rfl) (by kernel_rfl) (by exact fun _ _ _ h => h) ⟨Or.inl ⟨by rfl, ?_⟩, fun _ => rfl⟩ ?_
            rotate_left
            focus (intro w'; first | (go_simp; done) | (go_simp; with_reducible rfl))
            try simp only [Act.put, List.setIfInBounds_toArray, List.set_cons_zero, List.set_cons_succ]
            refine wpAnyIn_done (by kernel_rfl) ?_ _
            dsimp only [onlyN]
            refine hKc _ _ (Met.intro (hJc _ _ ?_))
            repeat apply Exists.intro
            refine ⟨?rel, rfl⟩
            case rel => exact ⟨true, rfl, Lib.hid (fun _ => ⟨_, H3.out⟩), Lib.hid (fun h => by cases h)⟩
        · have EF := Lib.hid (minP_no (f := wetF hi m l s level) (k := k) (decide_eq_false hwet))
          rw [hE.out] at EF
          refine wpIn_region_headIn (S := fun w' => w'.cell? ⟨Bf, 0, none⟩ = some (.int .i64 m) ∧ w'.cell? ⟨Bf, 1, none⟩ = some (.slice A l.length c) ∧ w'.cell? ⟨Bf, 2, none⟩ = some (.slice A' s.length c') ∧ w'.cell? ⟨Be, 0, none⟩ = some (.int .i64 e0) ∧ w'.cell? ⟨Bl, 0, none⟩ = some (.int .i64 level) ∧ Hid (Below w.heap.size w w')) 5 9 rfl (by kernel_rfl) (by kernel_rfl) ?_ (fun hHeld => ?_)
          · exact HS.out _ hb.out.drew
          refine heldTo_take (lets_wide _ _) (by kernel_rfl) 5 (i := 0) (v := ?_) (by kernel_rfl) (by simp only [List.getElem?_toArray, List.getElem?_cons_zero]; rfl) (by kernel_rfl) (by kernel_rfl) (by kernel_rfl) (by exact fun _ _ _ h => h) (Or.inl ⟨by rfl, ?_⟩) (by assumption) ?_
          rotate_left
          focus (intro w' hSw; (try dsimp only at hSw); first | (go_simp; done) | (go_simp; with_reducible rfl))
          try simp only [Act.put, List.setIfInBounds_toArray, List.set_cons_zero, List.set_cons_succ]
          refine heldTo_take (lets_wide _ _) (by kernel_rfl) 5 (i := 1) (v := ?_) (by kernel_rfl) (by simp only [List.getElem?_toArray, List.getElem?_cons_succ, List.getElem?_cons_zero]; rfl) (by kernel_rfl) (by kernel_rfl) (by kernel_rfl) (by exact fun _ _ _ h => h) (Or.inl ⟨by rfl, ?_⟩) (by assumption) ?_
          rotate_left
          focus (intro w' hSw; (try dsimp only at hSw); first | (go_simp; done) | (go_simp; with_reducible rfl))
          try simp only [Act.put, List.setIfInBounds_toArray, List.set_cons_zero, List.set_cons_succ]
          refine heldTo_take (lets_wide _ _) (by kernel_rfl) 5 (i := 2) (v := ?_) (by kernel_rfl) (by simp only [List.getElem?_toArray, List.getElem?_cons_succ, List.getElem?_cons_zero]; rfl) (by kernel_rfl) (by kernel_rfl) (by kernel_rfl) (by exact fun _ _ _ h => h) (Or.inl ⟨by rfl, ?_⟩) (by assumption) ?_
          rotate_left
          focus (intro w' hSw; (try dsimp only at hSw); first | (go_simp; done) | (go_simp; with_reducible rfl))
          try simp only [Act.put, List.setIfInBounds_toArray, List.set_cons_zero, List.set_cons_succ]
          refine heldTo_take (lets_wide _ _) (by kernel_rfl) 5 (i := 4) (v := ?_) (by kernel_rfl) (by simp only [List.getElem?_toArray, List.getElem?_cons_succ, List.getElem?_cons_zero]; rfl) (by kernel_rfl) (by kernel_rfl) (by kernel_rfl) (by exact fun _ _ _ h => h) (Or.inl ⟨by rfl, ?_⟩) (by assumption) ?_
          rotate_left
          focus (intro w' hSw; (try dsimp only at hSw); first | (go_simp; done) | (go_simp; with_reducible rfl))
          try simp only [Act.put, List.setIfInBounds_toArray, List.set_cons_zero, List.set_cons_succ]
          refine heldTo_one (i := 3) (by kernel_rfl) (by simp only [List.getElem?_toArray, List.getElem?_cons_succ, List.getElem?_cons_zero]; rfl) (by rfl) (fun K hK => ?_)
          unfold Oper.wpIn
          refine ⟨fun _ _ => trivial, ?_⟩
          rw [Oper.semAt_eq _ _ _ (fun c h => by cases h)]
          go_simp
          have kB := Lib.hid hHeld.2.2.2.2.2.out
          refine callsIn_wide.2 ((HEND.out m _ _ l s (k : Int) _ (HP.out.below kB.out) (HU.out.below kB.out)).mono ?_)
          rintro e w1 ⟨rfl, hbk⟩
          have B1 := Lib.hid (kB.out.trans (hbk.mono kB.out.size))
          have J1 := Lib.hid (HJ.out _ _ w1 none hJs.out (below_grown (((Below.refl wr.heap.size wr).drew).trans hbk)) (fun r e => by cases e))
          clear hbk kB hHeld
          try dsimp only
          refine hK.out _ _ ?_ (fun hHeld => ?_)
          · exact HS.out _ B1.out
          clear hK K
          try simp only [Act.put, List.setIfInBounds_toArray, List.set_cons_zero, List.set_cons_succ]
          refine heldTo_end ?_
          try dsimp only
          clear hHeld
          refine wpAnyIn_take (i := 5) (v := ?_) rfl (by simp only [List.getElem?_toArray, List.getElem?_cons_succ, List.getElem?_cons_zero]; rfl) (by kernel_rfl) (by kernel_rfl) (by kernel_rfl) (by exact fun _ _ _ h => h) ⟨Or.inl ⟨by rfl, ?_⟩, fun _ => rfl⟩ ?_
          rotate_left
          focus (intro w'; first | (go_simp; done) | (go_simp; with_reducible rfl))
          try simp only [Act.put, List.setIfInBounds_toArray, List.set_cons_zero, List.set_cons_succ]
          refine wpAnyIn_take (i := 6) (v := ?_) rfl (by simp only [List.getElem?_toArray, List.getElem?_cons_succ, List.getElem?_cons_zero]; rfl) (by kernel_rfl) (by kernel_rfl) (by kernel_rfl) (by exact fun _ _ _ h => h) ⟨Or.inl ⟨by rfl, ?_⟩, fun _ => rfl⟩ ?_
          rotate_left
          focus (intro w'; first | (go_simp; done) | (go_simp; with_reducible rfl))
          try simp only [Act.put, List.setIfInBounds_toArray, List.set_cons_zero, List.set_cons_succ]
          refine wpAnyIn_take (i := 7) (v := undef) rfl (by simp only [List.getElem?_toArray, List.getElem?_cons_succ, List.getElem?_cons_zero]; rfl) (by kernel_rfl) (by kernel_rfl) (by kernel_rfl) (by exact fun _ _ _ h => h) ⟨Or.inr ⟨by rfl, rfl⟩, fun _ => rfl⟩ ?_
          try simp only [Act.put, List.setIfInBounds_toArray, List.set_cons_zero, List.set_cons_succ]
          refine wpAnyIn_take (i := 8) (v := undef) rfl (by simp only [List.getElem?_toArray, List.getElem?_cons_succ, List.getElem?_cons_zero]; rfl) (by kernel_rfl) (by kernel_rfl) (by kernel_rfl) (by exact fun _ _ _ h => h) ⟨Or.inr ⟨by rfl, rfl⟩, fun _ => rfl⟩ ?_
          try simp only [Act.put, List.setIfInBounds_toArray, List.set_cons_zero, List.set_cons_succ]
          refine wpAnyIn_take (i := 9) (v := undef) rfl (by simp only [List.getElem?_toArray, List.getElem?_cons_succ, List.getElem?_cons_zero]; rfl) (by kernel_rfl) (by kernel_rfl) (by kernel_rfl) (by exact fun _ _ _ h => h) ⟨Or.inr ⟨by rfl, rfl⟩, fun _ => rfl⟩ ?_
          try simp only [Act.put, List.setIfInBounds_toArray, List.set_cons_zero, List.set_cons_succ]
          refine wpAnyIn_take (i := 10) (v := undef) rfl (by simp only [List.getElem?_toArray, List.getElem?_cons_succ, List.getElem?_cons_zero]; rfl) (by kernel_rfl) (by kernel_rfl) (by kernel_rfl) (by exact fun _ _ _ h => h) ⟨Or.inr ⟨by rfl, rfl⟩, fun _ => rfl⟩ ?_
          try simp only [Act.put, List.setIfInBounds_toArray, List.set_cons_zero, List.set_cons_succ]
          refine wpAnyIn_take (i := 11) (v := undef) rfl (by simp only [List.getElem?_toArray, List.getElem?_cons_succ, List.getElem?_cons_zero]; rfl) (by kernel_rfl) (by kernel_rfl) (by kernel_rfl) (by exact fun _ _ _ h => h) ⟨Or.inr ⟨by rfl, rfl⟩, fun _ => rfl⟩ ?_
          try simp only [Act.put, List.setIfInBounds_toArray, List.set_cons_zero, List.set_cons_succ]
          refine wpAnyIn_take (i := 12) (v := undef) rfl (by simp only [List.getElem?_toArray, List.getElem?_cons_succ, List.getElem?_cons_zero]; rfl) (by kernel_rfl) (by kernel_rfl) (by kernel_rfl) (by exact fun _ _ _ h => h) ⟨Or.inr ⟨by rfl, rfl⟩, fun _ => rfl⟩ ?_
          try simp only [Act.put, List.setIfInBounds_toArray, List.set_cons_zero, List.set_cons_succ]
          refine wpAnyIn_take (i := 13) (v := ?_) rfl (by simp only [List.getElem?_toArray, List.getElem?_cons_succ, List.getElem?_cons_zero]; rfl) (by kernel_rfl) (by kernel_rfl) (by kernel_rfl) (by exact fun _ _ _ h => h) ⟨Or.inl ⟨by rfl, ?_⟩, fun _ => rfl⟩ ?_
          rotate_left
          focus (intro w'; first | (go_simp; done) | (go_simp; with_reducible rfl))
          try simp only [Act.put, List.setIfInBounds_toArray, List.set_cons_zero, List.set_cons_succ]
          refine wpAnyIn_done (by kernel_rfl) ?_ _
          dsimp only [onlyN]
          refine hKc _ _ (Met.intro (hJc _ _ ?_))
          repeat apply Exists.intro
          refine ⟨?rel, rfl⟩
          case rel => exact ⟨false, rfl, Lib.hid (fun h => by cases h), Lib.hid (fun _ => ⟨_, EF.out, J1.out, B1.out⟩)⟩
      case rest =>
        obtain ⟨b, rfl, hbt, hbf⟩ := hcut
        cases b with
        | true =>
          obtain ⟨pre, hpre⟩ := hbt.out rfl
          have H3 := Lib.hid hpre
          clear hpre hbt hbf
          gi_wp2
          refine bodyPost_ret (results_none rfl _ _ _) rfl ?_
          exact ⟨⟨_, rfl⟩, .inr ⟨_, trivial, H3.out⟩⟩
        | false =>
          obtain ⟨acc', e1, hj, hbb⟩ := hbf.out rfl
          have E3 := Lib.hid e1
          have H3 := Lib.hid hj
          have HB3 := Lib.hid hbb
          have hs3 := hbb.size
          clear e1 hj hbb hbt hbf
          gi_wp2
          go_roundw
          case rel => exact ⟨k + 1, acc', by omega, by go_num, E3, H3, HB3, hs3⟩
          case measure => simp [intOf]; omega
end Go.Proofs.YtooeikimoheecaaGreat
namespace Go.Proofs.YtooeikimoheecaaGreat
open Go.RowKit
set_option maxRecDepth 100000
theorem minutesAtEnd_any (m : Int) (A A' : Option Addr) (n n' c c' : Nat) (level e0 : Int) (w : World) :
    Calls Tryz.prog 146 #[.agg #[.int .i64 m, .slice A n c, .slice A' n' c'], .int .i64 level, .int .i64 e0] w fun e w' => e = .returned (.func (.func 150) #[] #[.pointer (some ⟨w.heap.size, 0, none⟩), .pointer (some ⟨w.heap.size + 1 + 1, 0, none⟩), .pointer (some ⟨w.heap.size + 1, 0, none⟩)]) ∧
      w' = ((w.alloc (.cells #[.int .i64 m, .slice A n c, .slice A' n' c'] 44)).alloc (.cells #[.int .i64 level] 3)).alloc (.cells #[.int .i64 e0] 181) := by
  go_enter Tryz.func146, Tryz.ntmps146
  go_wp2
  go_ret
  exact ⟨rfl, rfl⟩
set_option maxHeartbeats 4000000 in
theorem windowsAtEnd_any (hi : Bool) (e0 : Int) (hEnd : EndAt hi e0) (m : Int) (v u : Value) (l : List PartD) (s : List SurgeD) (level : Int) (w : World) (h : SlP w v l) (h' : SlSurge w u s) :
    Calls Tryz.prog 136 #[.agg #[.int .i64 m, v, u], .int .i64 level, .int .i64 e0] w (NewWindow (wetL hi m l s level) w) := by
  have H := Lib.hid h
  have H' := Lib.hid h'
  have HEND := Lib.hid hEnd
  obtain ⟨A, c, rfl⟩ := h.at
  obtain ⟨A', c', rfl⟩ := h'.at
  have B0 := Lib.hid (Joins.below_alloc1 w (.cells #[.int .i64 m, .slice A l.length c, .slice A' s.length c'] 44))
  have X0 := Lib.hid (Blk.new w #[.int .i64 m, .slice A l.length c, .slice A' s.length c'] 44)
  clear h h' hEnd
  cases hok : fcB m l s with
  | false =>
    have E := Lib.hid (wetL_bad (hi := hi) (level := level) hok)
    have HOK := Lib.hid hok
    clear hok
    go_enter Tryz.func136, Tryz.ntmps136
    go_wp2_with fail
    refine (implForecastOk m _ _ l s _ (H.out.below B0.out) (H'.out.below B0.out)).mono ?_
    rw [HOK.out]
    rintro e w1 ⟨rfl, hb1⟩
    have B1 := Lib.hid (B0.out.trans (hb1.mono B0.out.size))
    clear hb1
    go_wp2
    go_ret
    exact NewWindow.empty B1.out E.out
  | true =>
    have E := Lib.hid (wetL_ok (hi := hi) (level := level) hok)
    have HOK := Lib.hid hok
    clear hok
    go_enter Tryz.func136, Tryz.ntmps136
    go_wp2_with fail
    refine (implForecastOk m _ _ l s _ (H.out.below B0.out) (H'.out.below B0.out)).mono ?_
    rw [HOK.out]
    rintro e w1 ⟨rfl, hb1⟩
    have B1 := Lib.hid (B0.out.trans (hb1.mono B0.out.size))
    have X1 := Lib.hid (X0.out.below hb1)
    have x0 : w1.cell? ⟨w.heap.size, 0, none⟩ = some (.int .i64 m) := X1.out.cell 0
    have x1 : w1.cell? ⟨w.heap.size, 1, none⟩ = some (.slice A l.length c) := X1.out.cell 1
    have x2 : w1.cell? ⟨w.heap.size, 2, none⟩ = some (.slice A' s.length c') := X1.out.cell 2
    clear hb1
    go_wp2_with fail
    refine (minutesAtEnd_any m A A' _ _ c c' level e0 w1).mono ?_
    rintro e w2 ⟨rfl, hw2⟩
    have hF0 := FBox.new (m := m) 44 (H.out.below B1.out) (H'.out.below B1.out)
    have hb2 : Below (w1.alloc (.cells #[.int .i64 m, .slice A l.length c, .slice A' s.length c'] 44)).heap.size (w1.alloc (.cells #[.int .i64 m, .slice A l.length c, .slice A' s.length c'] 44)) w2 := by rw [hw2]; exact Joins.below_alloc2 _ _ _
    have hF := hF0.below hb2
    have hal : Below w1.heap.size w1 w2 := (Joins.below_alloc1 w1 _).trans (hb2.mono (by simp))
    have be : w2.cell? ⟨w1.heap.size + 1 + 1, 0, none⟩ = some (.int .i64 e0) := by rw [hw2]; exact (Blk.newAt (by simp) _ _).cell 0
    have bl : w2.cell? ⟨w1.heap.size + 1, 0, none⟩ = some (.int .i64 level) := by rw [hw2]; exact ((Blk.newAt (by simp) _ _).below (Joins.below_alloc1 _ _)).cell 0
    have B2 := Lib.hid (B1.out.trans (hal.mono B1.out.size))
    have CC := Lib.hid (merge_any _ _ _ _ _ _ (minutes1 hi e0 HEND.out m A A' c c' l s level _ _ _ w2 hF be bl) (Nat.le_refl _) (enters_of Tryz.func150 (by kernel_rfl) rfl) (by omega))
    rw [minP_merge] at CC
    clear hw2 hF0 hb2 hF hal be bl x0 x1 x2
    go_wp2_with fail
    refine CC.out.mono ?_
    intro e w3 hnew
    obtain ⟨v3, rfl, h1, h2⟩ := hnew
    have K1 := Lib.hid h1
    have K2 := Lib.hid h2
    obtain ⟨A3, c3, rfl⟩ := own_form h1
    clear h1 h2
    go_wp2
    go_ret
    rw [E.out]
    exact ⟨_, rfl, own_lo K1.out B2.out.size, B2.out.trans (K2.out.mono B2.out.size)⟩
set_option maxHeartbeats 2000000 in
theorem implLowWindows (m : Int) (v u : Value) (l : List PartD) (s : List SurgeD) (level : Int) (w : World) (h : SlP w v l) (h' : SlSurge w u s) :
    Calls Tryz.prog 123 #[.agg #[.int .i64 m, v, u], .int .i64 level] w (NewWindow (wetL false m l s level) w) := by
  have B0 := Lib.hid (Joins.below_alloc1 w (.cells #[.int .i64 m, v, u] 44))
  have CC := Lib.hid (windowsAtEnd_any false _ endLo m v u l s level _ (h.below B0.out) (h'.below B0.out))
  obtain ⟨A, c, rfl⟩ := h.at
  obtain ⟨A', c', rfl⟩ := h'.at
  clear h h'
  go_enter Tryz.func123, Tryz.ntmps123
  go_wp2_with fail
  refine CC.out.mono ?_
  intro e w3 hnew
  obtain ⟨v3, rfl, h1, h2⟩ := hnew
  have K1 := Lib.hid h1
  have K2 := Lib.hid h2
  obtain ⟨A3, c3, rfl⟩ := own_form h1
  clear h1 h2
  go_wp2
  go_ret
  exact ⟨_, rfl, own_lo K1.out B0.out.size, B0.out.trans (K2.out.mono B0.out.size)⟩
/-- A list of marks that grows in a slot. -/
def GathM (w : World) (v : Value) (acc : List Bool) (wr : World) : Prop := wr.ownsRow w.heap.size 4 1 v acc.length (acc.map Value.bool) ∧ Below w.heap.size w wr
theorem GathM.made {w wr : World} (hb : Below w.heap.size w wr) : GathM w (.slice (some ⟨wr.heap.size, 0, none⟩) 0 0) [] (wr.alloc (.cells #[] 4)) :=
  ⟨⟨by simp, .inr ⟨wr.heap.size, 0, #[], rfl, hb.size, World.alloc_heap_new wr _, Nat.le_refl _, by omega, by simp, by simp⟩⟩, hb.alloc hb.size _⟩
theorem GathM.below {w wr W : World} {v : Value} {acc : List Bool} (h : GathM w v acc wr) (hb : Below wr.heap.size wr W) : GathM w v acc W := ⟨ownsRow_below h.1 hb, h.2.trans (hb.mono h.2.size)⟩
theorem GathM.next {w W w4 : World} {v : Value} {acc : List Bool} {b : Bool} {g4 cap4 : Nat} (h : GathM w v acc W)
    (hown : w4.ownsRow w.heap.size 4 1 (.slice (some ⟨g4, 0, none⟩) (acc.length + 1) cap4) (acc.length + 1) (acc.map Value.bool ++ [.bool b])) (hgr : W.grownBy w4 v.ownBlock) :
    GathM w (.slice (some ⟨g4, 0, none⟩) (acc.length + 1) cap4) (acc ++ [b]) w4 := by
  refine ⟨?_, h.2.grown hgr h.2.size (fun k hk => (World.ownsRow.lt h.1 k hk).1)⟩
  simpa using hown
theorem GathM.sl {w wr : World} {v : Value} {acc : List Bool} (h : GathM w v acc wr) (hl : acc.length ≤ 1000000000) : SlBool wr v acc := by
  refine own_sl (t := 4) (base := w.heap.size) boolLen ?_ hl
  unfold OwnOf
  rw [flat_bool]
  exact h.1
def rangeB (f : Nat → Bool) (k : Nat) : List Bool := (List.range k).map f
theorem rangeB_next (f : Nat → Bool) (k : Nat) : rangeB f (k + 1) = rangeB f k ++ [f k] := by unfold rangeB; rw [List.range_succ, List.map_append]; rfl
theorem rangeB_len (f : Nat → Bool) (k : Nat) : (rangeB f k).length = k := by simp [rangeB]
def sel (hi : Bool) (x : SurgeD) : Int := if hi = true then x.hi else x.lo
theorem wetF_at {hi : Bool} {m : Int} {l : List PartD} {s : List SurgeD} {level : Int} {k : Nat} (h : fcB m l s = true) (hk : k < 2881) : wetF hi m l s level k = decide (level ≤ levI m l (k : Int) + sel hi (atS s (k : Int))) := by
  unfold wetF endI sel
  rw [if_pos (sAt_mk h (decide_eq_true (by omega)))]
set_option maxHeartbeats 8000000 in
theorem l04Levels_any (hi : Bool) (m : Int) (v u : Value) (l : List PartD) (s : List SurgeD) (level : Int) (w : World) (h : SlP w v l) (h' : SlSurge w u s) (hok : fcB m l s = true) :
    Calls Tryz.prog 113 #[.agg #[.int .i64 m, v, u], .int .i64 level, .bool hi] w (NewWindow (ofMarks (wetF hi m l s level) 2881) w) := by
  obtain ⟨i0, hin, hz0, hzs, hz2⟩ := info_parts info_bool
  have HI := Lib.hid hin
  clear hin
  have hs0 : 0 < s.length := (fcB_true hok).2.1
  have HOK := Lib.hid hok
  have htide := (fcB_true hok).1
  have HTD := Lib.hid htide
  have H := Lib.hid h
  have H' := Lib.hid h'
  obtain ⟨A, c, rfl⟩ := h.at
  obtain ⟨A', c', rfl⟩ := h'.at
  have B0 := Lib.hid (Joins.below_alloc1 w (.cells #[.int .i64 m, .slice A l.length c, .slice A' s.length c'] 44))
  have X0 := Lib.hid (Blk.new w #[.int .i64 m, .slice A l.length c, .slice A' s.length c'] 44)
  clear h h' hok htide
  go_enter Tryz.func113, Tryz.ntmps113
  go_wp2
  have G0 := Lib.hid (GathM.made B0.out)
  have X1 := Lib.hid (X0.out.below (Joins.below_alloc1 _ (.cells #[] 4)))
  go_loopw [7, 8] (fun q p wr => ∃ k : Nat, k ≤ 2881 ∧ p = .int .i64 k ∧ Hid (GathM w q (rangeB (wetF hi m l s level) k) wr) ∧ Hid (Blk wr w.heap.size #[.int .i64 m, .slice A l.length c, .slice A' s.length c'] 44) ∧ Hid (q.ownBlock ≠ some w.heap.size)) (fun _ p _ => 2881 - (intOf p).toNat)
  case atStart => exact ⟨0, Nat.zero_le _, rfl, by simpa [rangeB] using G0, X1, Lib.hid (by simp [Value.ownBlock])⟩
  case round =>
    obtain ⟨k, hk, rfl, hG, hX, hN⟩ := hrel
    by_cases hlt : k < 2881
    rotate_left
    · obtain rfl : k = 2881 := by omega
      have CO := Lib.hid (l04Of_any _ _ wr (hG.out.sl (by rw [rangeB_len]; omega)) (by rw [rangeB_len]; omega))
      rw [show ofMarks (markF (rangeB (wetF hi m l s level) 2881)) (rangeB (wetF hi m l s level) 2881).length = ofMarks (wetF hi m l s level) 2881 from ofMarks_bits (wetF hi m l s level)] at CO
      have hsz := hG.out.2.size
      obtain ⟨A2, c2, rfl⟩ : ∃ A c, u7 = .slice A 2881 c := by
        rcases hG.out.1.2 with ⟨_, h0⟩ | ⟨g, cap, cur, e, _⟩
        · rw [rangeB_len] at h0; omega
        · rw [rangeB_len] at e; exact ⟨_, _, e⟩
      go_wp2_with fail
      refine CO.out.mono ?_
      rintro e w4 ⟨v4, rfl, h1, h2⟩
      have K1 := Lib.hid h1
      have K2 := Lib.hid h2
      obtain ⟨A3, c3, rfl⟩ := own_form h1
      clear h1 h2
      go_wp2
      go_ret
      exact ⟨_, rfl, own_lo K1.out hsz, hG.out.2.trans (K2.out.mono hsz)⟩
    · have EF := Lib.hid (rangeB_next (wetF hi m l s level) k)
      rw [wetF_at HOK.out hlt] at EF
      have hal := Nat.le_of_eq (rangeB_len (wetF hi m l s level) k)
      obtain ⟨acc, hacc⟩ : ∃ acc, rangeB (wetF hi m l s level) k = acc := ⟨_, rfl⟩
      rw [hacc] at hG hal EF
      clear hacc
      have hsz := hG.out.2.size
      have x0 : wr.cell? ⟨w.heap.size, 0, none⟩ = some (.int .i64 m) := hX.out.cell 0
      have x1 : wr.cell? ⟨w.heap.size, 1, none⟩ = some (.slice A l.length c) := hX.out.cell 1
      have x2 : wr.cell? ⟨w.heap.size, 2, none⟩ = some (.slice A' s.length c') := hX.out.cell 2
      have HT := Lib.hid (atS_ok (t := (k : Int)) hs0 (fcB_true HOK.out).2.2.2.2)
      have hfa := sAt_facts (sAt_mk (t := (k : Int)) HOK.out (decide_eq_true (by omega)))
      obtain ⟨_, _, _, f0, f1, f2, f3, f4⟩ := hfa
      obtain ⟨L, hL⟩ : ∃ L, levI m l (k : Int) = L := ⟨_, rfl⟩
      obtain ⟨z, hz⟩ : ∃ z, atS s (k : Int) = z := ⟨_, rfl⟩
      rw [hL, hz] at EF
      rw [hL] at f0 f1
      rw [hz] at f2 f3 f4
      have CS := Lib.hid (l03Surge_any m (.slice A l.length c) (.slice A' s.length c') l s (k : Int) wr (H.out.below hG.out.2) (H'.out.below hG.out.2) hs0)
      rw [hz] at CS
      have CL := Lib.hid (fun W hb => l02Level_any m (.slice A l.length c) l (k : Int) W (H.out.below hb) HTD.out (by omega) (by omega))
      rw [hL] at CL
      clear hL hz HT
      cases hi with
      | false =>
        go_wp2_with fail
        refine CS.out.mono ?_
        rintro e w1 ⟨rfl, hb1⟩
        have G1 := Lib.hid ((hG.out.below hb1).below (Joins.below_alloc1 w1 (.cells #[.int .i64 z.fr, .int .i64 z.lo, .int .i64 z.hi] 115)))
        have X2 := Lib.hid ((hX.out.below hb1).below (Joins.below_alloc1 w1 (.cells #[.int .i64 z.fr, .int .i64 z.lo, .int .i64 z.hi] 115)))
        have y0 : w1.cell? ⟨w.heap.size, 0, none⟩ = some (.int .i64 m) := (hX.out.below hb1).cell 0
        have y1 : w1.cell? ⟨w.heap.size, 1, none⟩ = some (.slice A l.length c) := (hX.out.below hb1).cell 1
        have hs1 := hb1.size
        have hlo1 : w.heap.size < w1.heap.size := by have := hX.out.lt; omega
        have hne1 : w.heap.size ≠ w1.heap.size := by omega
        clear hb1 x0 x1 x2
        go_wp2_with fail
        refine (CL.out _ G1.out.2).mono ?_
        rintro e w2 ⟨rfl, hb2⟩
        have G2 := Lib.hid (G1.out.below hb2)
        have X3 := Lib.hid (X2.out.below hb2)
        have hs2 : w1.heap.size < w2.heap.size := by have := hb2.size; simp at this; omega
        clear hb2 y0 y1
        rw [show sel false z = z.lo from rfl] at EF
        have GW := Lib.hid (G2.out.below (Joins.below_alloc1 w2 (.cells #[.bool (decide (level ≤ L + z.lo))] 4)))
        have X4 := Lib.hid (X3.out.below (Joins.below_alloc1 w2 (.cells #[.bool (decide (level ≤ L + z.lo))] 4)))
        have HN := Lib.hid (World.news_of_block (World.alloc_heap_new w2 (.cells #[.bool (decide (level ≤ L + z.lo))] 4)))
        go_wp2_with (at_builtin; refine wpList_append_lies _ rfl _ _ _ rfl w.heap.size 4 i0 _ 1 1 Tryz.underlying171 HI.out hz0 (by assumption) hz2 rfl (by omega) u7 acc.length (acc.map Value.bool) rfl GW.out.1 ⟨w2.heap.size, 0, none⟩ 1 1 [.bool (decide (level ≤ L + z.lo))] (by first | rfl | simp) rfl (by simpa using HN.out) (by simp [Value.oneCell']) (by omega) (by unfold maxLen; omega) (by omega) (by simp; omega) _ rfl ?_; intro g4 cap4 w4 hown4 hgrow4 hor4 hlt4; have GX := Lib.hid (GW.out.next hown4 hgrow4); have XX := Lib.hid (X4.out.grown hgrow4 (fun e => hN.out e.symm)); have NX := Lib.hid (show (Value.slice (some ⟨g4, 0, none⟩) (acc.length + 1) cap4).ownBlock ≠ some w.heap.size from fun e => by rcases hor4 with ho | ho; exact hN.out (by rw [ho]; exact e); (have e' : g4 = w.heap.size := by simpa [Value.ownBlock] using e); simp at ho; omega); clear hown4 hgrow4 hor4 hlt4)
        go_roundw
        case rel => exact ⟨k + 1, by omega, by go_num, by rw [EF.out]; exact GX, XX, NX⟩
        case measure => simp [intOf]; omega
      | true =>
        go_wp2_with fail
        refine CS.out.mono ?_
        rintro e w1 ⟨rfl, hb1⟩
        have G1 := Lib.hid ((hG.out.below hb1).below (Joins.below_alloc1 w1 (.cells #[.int .i64 z.fr, .int .i64 z.lo, .int .i64 z.hi] 115)))
        have X2 := Lib.hid ((hX.out.below hb1).below (Joins.below_alloc1 w1 (.cells #[.int .i64 z.fr, .int .i64 z.lo, .int .i64 z.hi] 115)))
        have y0 : w1.cell? ⟨w.heap.size, 0, none⟩ = some (.int .i64 m) := (hX.out.below hb1).cell 0
        have y1 : w1.cell? ⟨w.heap.size, 1, none⟩ = some (.slice A l.length c) := (hX.out.below hb1).cell 1
        have hs1 := hb1.size
        have hlo1 : w.heap.size < w1.heap.size := by have := hX.out.lt; omega
        have hne1 : w.heap.size ≠ w1.heap.size := by omega
        clear hb1 x0 x1 x2
        go_wp2_with fail
        refine (CL.out _ G1.out.2).mono ?_
        rintro e w2 ⟨rfl, hb2⟩
        have G2 := Lib.hid (G1.out.below hb2)
        have X3 := Lib.hid (X2.out.below hb2)
        have hs2 : w1.heap.size < w2.heap.size := by have := hb2.size; simp at this; omega
        clear hb2 y0 y1
        rw [show sel true z = z.hi from rfl] at EF
        have GW := Lib.hid (G2.out.below (Joins.below_alloc1 w2 (.cells #[.bool (decide (level ≤ L + z.hi))] 4)))
        have X4 := Lib.hid (X3.out.below (Joins.below_alloc1 w2 (.cells #[.bool (decide (level ≤ L + z.hi))] 4)))
        have HN := Lib.hid (World.news_of_block (World.alloc_heap_new w2 (.cells #[.bool (decide (level ≤ L + z.hi))] 4)))
        go_wp2_with (at_builtin; refine wpList_append_lies _ rfl _ _ _ rfl w.heap.size 4 i0 _ 1 1 Tryz.underlying171 HI.out hz0 (by assumption) hz2 rfl (by omega) u7 acc.length (acc.map Value.bool) rfl GW.out.1 ⟨w2.heap.size, 0, none⟩ 1 1 [.bool (decide (level ≤ L + z.hi))] (by first | rfl | simp) rfl (by simpa using HN.out) (by simp [Value.oneCell']) (by omega) (by unfold maxLen; omega) (by omega) (by simp; omega) _ rfl ?_; intro g4 cap4 w4 hown4 hgrow4 hor4 hlt4; have GX := Lib.hid (GW.out.next hown4 hgrow4); have XX := Lib.hid (X4.out.grown hgrow4 (fun e => hN.out e.symm)); have NX := Lib.hid (show (Value.slice (some ⟨g4, 0, none⟩) (acc.length + 1) cap4).ownBlock ≠ some w.heap.size from fun e => by rcases hor4 with ho | ho; exact hN.out (by rw [ho]; exact e); (have e' : g4 = w.heap.size := by simpa [Value.ownBlock] using e); simp at ho; omega); clear hown4 hgrow4 hor4 hlt4)
        go_roundw
        case rel => exact ⟨k + 1, by omega, by go_num, by rw [EF.out]; exact GX, XX, NX⟩
        case measure => simp [intOf]; omega
end Go.Proofs.YtooeikimoheecaaGreat
