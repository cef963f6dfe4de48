
/- What ExactSureStarts and ExactOpenStarts and ExactIsSure and ExactIsOpenStart and ExactDraughtFor rests on, part 14: contracts and mathematics. -/
import Derived.Test.YtpimcbhjkednpaaGreatSt9
import Derived.Test.YtpimcbhjkednpaaGreatSt8
import Derived.BigRegionIn
import Derived.Sort.CutIn
import Derived.Test.YtpimcbhjkednpaaGreatSt13
namespace Go.Proofs.YtpimcbhjkednpaaGreat
open Go.RowKit Go.Shelf
set_option maxRecDepth 100000
attribute [local go_sem] Oper.semAt_some
/-- The marked minutes, a window each. -/
def minP (f : Nat → Bool) (k : Nat) : List WindowD := (List.range k).flatMap fun j => if f j = true then [⟨j, j⟩] else []
theorem minP_next (f : Nat → Bool) (k : Nat) : minP f (k + 1) = minP f k ++ (if f k = true then [⟨k, k⟩] else []) := by
  unfold minP; rw [List.range_succ, List.flatMap_append]; simp
theorem minP_yes {f : Nat → Bool} {k : Nat} (h : f k = true) : minP f (k + 1) = minP f k ++ [⟨k, k⟩] := by rw [minP_next, if_pos h]
theorem minP_no {f : Nat → Bool} {k : Nat} (h : f k = false) : minP f (k + 1) = minP f k := by rw [minP_next, if_neg (by rw [h]; simp), List.append_nil]
theorem minP_len (f : Nat → Bool) (k : Nat) : (minP f k).length ≤ k := by
  induction k with
  | zero => simp [minP]
  | succ k ih =>
    cases h : f k with
    | true => rw [minP_yes h]; simp; omega
    | false => rw [minP_no h]; omega
theorem minP_mem (f : Nat → Bool) : ∀ k x, x ∈ minP f k ↔ ∃ j : Nat, j < k ∧ f j = true ∧ x = ⟨j, j⟩ := by
  intro k
  induction k with
  | zero => intro x; simp [minP]
  | succ k ih =>
    intro x
    cases h : f k with
    | true =>
      rw [minP_yes h, List.mem_append, ih, List.mem_singleton]
      constructor
      · rintro (⟨j, h1, h2, h3⟩ | h1)
        · exact ⟨j, by omega, h2, h3⟩
        · exact ⟨k, by omega, h, h1⟩
      · rintro ⟨j, h1, h2, h3⟩
        by_cases e : j = k
        · subst e; exact .inr h3
        · exact .inl ⟨j, by omega, h2, h3⟩
    | false =>
      rw [minP_no h, ih]
      constructor
      · rintro ⟨j, h1, h2, h3⟩; exact ⟨j, by omega, h2, h3⟩
      · rintro ⟨j, h1, h2, h3⟩
        by_cases e : j = k
        · subst e; rw [h] at h2; cases h2
        · exact ⟨j, by omega, h2, h3⟩
theorem minP_sorted (f : Nat → Bool) : ∀ k, (minP f k).Pairwise (fun x y => x.fr ≤ y.fr) := by
  intro k
  induction k with
  | zero => simp [minP]
  | succ k ih =>
    cases h : f k with
    | true =>
      rw [minP_yes h, List.pairwise_append]
      refine ⟨ih, List.pairwise_singleton _ _, fun a ha b hb => ?_⟩
      obtain ⟨j, h1, _, h3⟩ := (minP_mem f k a).1 ha
      rw [List.mem_singleton.1 hb, h3]
      simp only
      omega
    | false => rw [minP_no h]; exact ih
theorem minP_merge (f : Nat → Bool) : mergeF (minP f 2881) = ofMarks f 2881 := by
  refine merge_eq_marks (minP_sorted f 2881) (fun x hx => ?_) (fun j hj => ?_)
  · obtain ⟨j, h1, _, h3⟩ := (minP_mem f 2881 x).1 hx
    rw [h3]; simp only; omega
  · constructor
    · intro h
      exact ⟨⟨j, j⟩, (minP_mem f 2881 _).2 ⟨j, hj, h, rfl⟩, by simp, by simp⟩
    · rintro ⟨x, hx, h1, h2⟩
      obtain ⟨i, _, hi, e⟩ := (minP_mem f 2881 x).1 hx
      rw [e] at h1 h2
      simp only at h1 h2
      obtain rfl : i = j := by omega
      exact hi
theorem below_grown {w w' : World} (h : Below w.heap.size w w') : w.grownBy w' none := ⟨h.os, h.tape, h.output, h.size, fun k hk _ => h.block k hk⟩
/-- The minutes at which an end of the band reaches a level. -/
def wetF (hi : Bool) (m : Int) (l : List PartD) (s : List SurgeD) (level : Int) (j : Nat) : Bool := decide (level ≤ endI hi m l s (j : Int))
def wetL (hi : Bool) (m : Int) (l : List PartD) (s : List SurgeD) (level : Int) : List WindowD := if fcB m l s = true then ofMarks (wetF hi m l s level) 2881 else []
theorem wetL_ok {hi : Bool} {m : Int} {l : List PartD} {s : List SurgeD} {level : Int} (h : fcB m l s = true) : wetL hi m l s level = ofMarks (wetF hi m l s level) 2881 := if_pos h
theorem wetL_bad {hi : Bool} {m : Int} {l : List PartD} {s : List SurgeD} {level : Int} (h : fcB m l s = false) : wetL hi m l s level = [] := if_neg (by rw [h]; simp)
theorem wetL_len (hi : Bool) (m : Int) (l : List PartD) (s : List SurgeD) (level : Int) : (wetL hi m l s level).length ≤ 2881 := by
  unfold wetL; split
  · exact ofMarks_len _ _
  · simp
/-- What the program's levelAtEnd answers at one of the ends. -/
def EndAt (hi : Bool) (e0 : Int) : Prop := ∀ (m : Int) (v u : Value) (l : List PartD) (s : List SurgeD) (t : Int) (w : World), SlP w v l → SlSurge w u s →
    Calls Tryz.prog 126 #[.agg #[.int .i64 m, v, u], .int .i64 t, .int .i64 e0] w fun e w' => e = .returned (.int .i64 (endI hi m l s t)) ∧ Below w.heap.size w w'
theorem endLo : EndAt false 0 := levelAtEndLo
theorem endHi : EndAt true 1 := levelAtEndHi
set_option maxHeartbeats 8000000 in
theorem minutes1 (hi : Bool) (e0 : Int) (hEnd : EndAt hi e0) (m : Int) (A A' : Option Addr) (c c' : Nat) (l : List PartD) (s : List SurgeD) (level : Int) (Bf Be Bl : Nat) (w : World) (hF : FBox w Bf m (.slice A l.length c) (.slice A' s.length c') l s)
    (he : w.cell? ⟨Be, 0, none⟩ = some (.int .i64 e0)) (hlv : w.cell? ⟨Bl, 0, none⟩ = some (.int .i64 level)) :
    SeqW 125 #[.pointer (some ⟨Bf, 0, none⟩), .pointer (some ⟨Be, 0, none⟩), .pointer (some ⟨Bl, 0, none⟩)] (Below w.heap.size) 2881 (minP (wetF hi m l s level) 2881) w := by
  intro n hn lp J Jx W hW hJ hJx hY h0
  have HS := Lib.hid (fun (W' : World) (hb : Below w.heap.size w W') => show (fun w' => w'.cell? ⟨Bf, 0, none⟩ = some (.int .i64 m) ∧ w'.cell? ⟨Bf, 1, none⟩ = some (.slice A l.length c) ∧ w'.cell? ⟨Bf, 2, none⟩ = some (.slice A' s.length c') ∧ w'.cell? ⟨Be, 0, none⟩ = some (.int .i64 e0) ∧ w'.cell? ⟨Bl, 0, none⟩ = some (.int .i64 level) ∧ Hid (Below w.heap.size w w')) W' from ⟨cell_on hF.1 hb, cell_on hF.2.1 hb, cell_on hF.2.2.1 hb, cell_on he hb, cell_on hlv hb, Lib.hid hb⟩)
  have HP := Lib.hid hF.2.2.2.1
  have HU := Lib.hid hF.2.2.2.2
  have HJ := Lib.hid hJ
  have HY := Lib.hid hY
  have H0 := Lib.hid h0
  have HW := Lib.hid hW
  have HEND := Lib.hid hEnd
  clear hJ hJx hY h0 hW hF he hlv hEnd
  change CallsIn Fence.wide n Tryz.prog 125 #[.func (.yield lp) #[] #[], .pointer (some ⟨Bf, 0, none⟩), .pointer (some ⟨Be, 0, none⟩), .pointer (some ⟨Bl, 0, none⟩)] W _
  refine callsIn_of_wp Tryz.func125 rfl trivial ?_ rfl
  simp only [Tryz.ntmps125, List.size_toArray, List.length_cons, List.length_nil, Nat.reduceAdd, Nat.reduceSub, Array.replicate_succ, Array.replicate_zero, List.push_toArray, List.append_toArray, List.nil_append, List.cons_append]
  gi_wp2
  gi_loopw [6] (fun i wr => ∃ (k : Nat) (acc : List WindowD), k ≤ 2881 ∧ i = .int .i64 k ∧ Hid (minP (wetF hi m l s level) k = acc) ∧ Hid (J acc wr) ∧ Hid (Below w.heap.size w wr) ∧ w.heap.size ≤ wr.heap.size) (fun i _ => 2881 - (intOf i).toNat)
  case atStart => exact ⟨0, [], Nat.zero_le _, rfl, Lib.hid rfl, H0, HW, HW.out.size⟩
  case round =>
    obtain ⟨k, acc, hk, rfl, hE, hJs, hb, hsz⟩ := hrel
    have hgl := minP_len (wetF hi m l s level) k
    rw [hE.out] at hgl
    by_cases hlt : k < 2881
    rotate_left
    · obtain rfl : k = 2881 := by omega
      gi_wp2
      go_end0
      first
        | exact ⟨⟨_, rfl⟩, .inl ⟨_, hE.out.symm, hJs.out⟩⟩
        | exact ⟨⟨_, rfl⟩, .inl (by rw [hE.out]; exact hJs.out)⟩
    · gi_upto_region 3 with fail
      gi_cut [22] from 7 (fun b wd => ∃ b' : Bool, b = .bool b' ∧ Hid (b' = true → ∃ pre, Jx pre wd) ∧ Hid (b' = false → ∃ acc', minP (wetF hi m l s level) (k + 1) = acc' ∧ J acc' wd ∧ Below w.heap.size w wd))
      case first =>
        rename_i Jc Kc hJc hKc
        by_cases hwet : level ≤ endI hi m l s (k : Int)
        · have EF := Lib.hid (minP_yes (f := wetF hi m l s level) (k := k) (decide_eq_true hwet))
          rw [hE.out] at EF
          refine wpIn_region_headIn (S := fun w' => w'.cell? ⟨Bf, 0, none⟩ = some (.int .i64 m) ∧ w'.cell? ⟨Bf, 1, none⟩ = some (.slice A l.length c) ∧ w'.cell? ⟨Bf, 2, none⟩ = some (.slice A' s.length c') ∧ w'.cell? ⟨Be, 0, none⟩ = some (.int .i64 e0) ∧ w'.cell? ⟨Bl, 0, none⟩ = some (.int .i64 level) ∧ Hid (Below w.heap.size w w')) 5 9 rfl (by kernel_rfl) (by kernel_rfl) ?_ (fun hHeld => ?_)
          · exact HS.out _ hb.out.drew
          refine heldTo_take (lets_wide _ _) (by kernel_rfl) 5 (i := 0) (v := ?_) (by kernel_rfl) (by simp only [List.getElem?_toArray, List.getElem?_cons_zero]; rfl) (by kernel_rfl) (by kernel_rfl) (by kernel_rfl) (by exact fun _ _ _ h => h) (Or.inl ⟨by rfl, ?_⟩) (by assumption) ?_
          rotate_left
          focus (intro w' hSw; (try dsimp only at hSw); first | (go_simp; done) | (go_simp; with_reducible rfl))
          try simp only [Act.put, List.setIfInBounds_toArray, List.set_cons_zero, List.set_cons_succ]
          refine heldTo_take (lets_wide _ _) (by kernel_rfl) 5 (i := 1) (v := ?_) (by kernel_rfl) (by simp only [List.getElem?_toArray, List.getElem?_cons_succ, List.getElem?_cons_zero]; rfl) (by kernel_rfl) (by kernel_rfl) (by kernel_rfl) (by exact fun _ _ _ h => h) (Or.inl ⟨by rfl, ?_⟩) (by assumption) ?_
          rotate_left
          focus (intro w' hSw; (try dsimp only at hSw); first | (go_simp; done) | (go_simp; with_reducible rfl))
          try simp only [Act.put, List.setIfInBounds_toArray, List.set_cons_zero, List.set_cons_succ]
          refine heldTo_take (lets_wide _ _) (by kernel_rfl) 5 (i := 2) (v := ?_) (by kernel_rfl) (by simp only [List.getElem?_toArray, List.getElem?_cons_succ, List.getElem?_cons_zero]; rfl) (by kernel_rfl) (by kernel_rfl) (by kernel_rfl) (by exact fun _ _ _ h => h) (Or.inl ⟨by rfl, ?_⟩) (by assumption) ?_
          rotate_left
          focus (intro w' hSw; (try dsimp only at hSw); first | (go_simp; done) | (go_simp; with_reducible rfl))
          try simp only [Act.put, List.setIfInBounds_toArray, List.set_cons_zero, List.set_cons_succ]
          refine heldTo_take (lets_wide _ _) (by kernel_rfl) 5 (i := 4) (v := ?_) (by kernel_rfl) (by simp only [List.getElem?_toArray, List.getElem?_cons_succ, List.getElem?_cons_zero]; rfl) (by kernel_rfl) (by kernel_rfl) (by kernel_rfl) (by exact fun _ _ _ h => h) (Or.inl ⟨by rfl, ?_⟩) (by assumption) ?_
          rotate_left
          focus (intro w' hSw; (try dsimp only at hSw); first | (go_simp; done) | (go_simp; with_reducible rfl))
          try simp only [Act.put, List.setIfInBounds_toArray, List.set_cons_zero, List.set_cons_succ]
          refine heldTo_one (i := 3) (by kernel_rfl) (by simp only [List.getElem?_toArray, List.getElem?_cons_succ, List.getElem?_cons_zero]; rfl) (by rfl) (fun K hK => ?_)
          unfold Oper.wpIn
          refine ⟨fun _ _ => trivial, ?_⟩
          rw [Oper.semAt_eq _ _ _ (fun c h => by cases h)]
          go_simp
          have kB := Lib.hid hHeld.2.2.2.2.2.out
          refine callsIn_wide.2 ((HEND.out m _ _ l s (k : Int) _ (HP.out.below kB.out) (HU.out.below kB.out)).mono ?_)
          rintro e w1 ⟨rfl, hbk⟩
          have B1 := Lib.hid (kB.out.trans (hbk.mono kB.out.size))
          have J1 := Lib.hid (HJ.out _ _ w1 none hJs.out (below_grown (((Below.refl wr.heap.size wr).drew).trans hbk)) (fun r e => by cases e))
          clear hbk kB hHeld
          try dsimp only
          refine hK.out _ _ ?_ (fun hHeld => ?_)
          · exact HS.out _ B1.out
          clear hK K
          try simp only [Act.put, List.setIfInBounds_toArray, List.set_cons_zero, List.set_cons_succ]
          refine heldTo_end ?_
          try dsimp only
          clear hHeld
          obtain ⟨fn, tmps, assign, body, hy, hR⟩ := HY.out _ ⟨k, k⟩ w1 J1.out (by omega)
          have HR := Lib.hid hR
          clear hR
          dsimp only at hy
          refine wpAnyIn_take (i := 5) (v := ?_) rfl (by simp only [List.getElem?_toArray, List.getElem?_cons_succ, List.getElem?_cons_zero]; rfl) (by kernel_rfl) (by kernel_rfl) (by kernel_rfl) (by exact fun _ _ _ h => h) ⟨Or.inl ⟨by rfl, ?_⟩, fun _ => rfl⟩ ?_
          rotate_left
          focus (intro w'; first | (go_simp; done) | (go_simp; with_reducible rfl))
          try simp only [Act.put, List.setIfInBounds_toArray, List.set_cons_zero, List.set_cons_succ]
          refine wpAnyIn_take (i := 6) (v := ?_) rfl (by simp only [List.getElem?_toArray, List.getElem?_cons_succ, List.getElem?_cons_zero]; rfl) (by kernel_rfl) (by kernel_rfl) (by kernel_rfl) (by exact fun _ _ _ h => h) ⟨Or.inl ⟨by rfl, ?_⟩, fun _ => rfl⟩ ?_
          rotate_left
          focus (intro w'; first | (go_simp; done) | (go_simp; with_reducible rfl))
          try simp only [Act.put, List.setIfInBounds_toArray, List.set_cons_zero, List.set_cons_succ]
          refine wpAnyIn_take (i := 7) (v := ?_) rfl (by simp only [List.getElem?_toArray, List.getElem?_cons_succ, List.getElem?_cons_zero]; rfl) (by kernel_rfl) (by kernel_rfl) (by kernel_rfl) (by exact fun _ _ _ h => h) ⟨Or.inl ⟨by rfl, ?_⟩, fun _ => rfl⟩ ?_
          rotate_left
          focus (intro w'; first | (go_simp; done) | (go_simp; with_reducible rfl))
          try simp only [Act.put, List.setIfInBounds_toArray, List.set_cons_zero, List.set_cons_succ]
          refine wpAnyIn_take (i := 8) (v := ?_) rfl (by simp only [List.getElem?_toArray, List.getElem?_cons_succ, List.getElem?_cons_zero]; rfl) (by kernel_rfl) (by kernel_rfl) (by kernel_rfl) (by exact fun _ _ _ h => h) ⟨Or.inl ⟨by rfl, ?_⟩, fun _ => rfl⟩ ?_
          rotate_left
          focus (intro w'; first | (go_simp; done) | (go_simp; with_reducible rfl))
          try simp only [Act.put, List.setIfInBounds_toArray, List.set_cons_zero, List.set_cons_succ]
          refine wpAnyIn_take (i := 9) (v := ?_) rfl (by simp only [List.getElem?_toArray, List.getElem?_cons_succ, List.getElem?_cons_zero]; rfl) (by kernel_rfl) (by kernel_rfl) (by kernel_rfl) (by exact fun _ _ _ h => h) ⟨Or.inl ⟨by rfl, ?_⟩, fun _ => rfl⟩ ?_
          rotate_left
          focus (intro w'; first | (go_simp; done) | (go_simp; with_reducible rfl))
          try simp only [Act.put, List.setIfInBounds_toArray, List.set_cons_zero, List.set_cons_succ]
          refine wpAnyIn_take (i := 10) (v := ?_) rfl (by simp only [List.getElem?_toArray, List.getElem?_cons_succ, List.getElem?_cons_zero]; rfl) (by kernel_rfl) (by kernel_rfl) (by kernel_rfl) (by exact fun _ _ _ h => h) ⟨Or.inl ⟨by rfl, ?_⟩, fun _ => rfl⟩ ?_
          rotate_left
          focus (intro w'; first | (go_simp; done) | (go_simp; with_reducible rfl))
          try simp only [Act.put, List.setIfInBounds_toArray, List.set_cons_zero, List.set_cons_succ]
          refine anyIn_one (i := 11) (by kernel_rfl) (by simp only [List.getElem?_toArray, List.getElem?_cons_succ, List.getElem?_cons_zero]; rfl) (by rfl) (fun K hK => ?_)
          unfold Oper.wpIn
          refine ⟨fun _ _ => trivial, ?_⟩
          rw [Oper.semAt_eq _ _ _ (fun c h => by cases h)]
          go_simp
          refine HR.out.mono ?_
          rintro e W3 (⟨rfl, hJ3, hk3⟩ | ⟨rfl, hJx3⟩)
          · skip
            have H3 := Lib.hid hJ3
            have HB3 := Lib.hid (B1.out.trans hk3)
            clear hJ3 hk3 hy
            try dsimp only
            refine hK.out _ _ ?_
            clear hK K
            try simp only [Act.put, List.setIfInBounds_toArray, List.set_cons_zero, List.set_cons_succ]
            refine wpAnyIn_take (i := 12) (v := ?_) rfl (by simp only [List.getElem?_toArray, List.getElem?_cons_succ, List.getElem?_cons_zero]; rfl) (by kernel_rfl) (by kernel_rfl) (by kernel_rfl) (by exact fun _ _ _ h => h) ⟨Or.inl ⟨by rfl, ?_⟩, fun _ => rfl⟩ ?_
            rotate_left
            focus (intro w'; first | (go_simp; done) | (go_simp; with_reducible rfl))
            try simp only [Act.put, List.setIfInBounds_toArray, List.set_cons_zero, List.set_cons_succ]
            refine wpAnyIn_take (i := 13) (v := ?_) rfl (by simp only [List.getElem?_toArray, List.getElem?_cons_succ, List.getElem?_cons_zero]; rfl) (by kernel_rfl) (by kernel_rfl) (by kernel_rfl) (by exact fun _ _ _ h => h) ⟨Or.inl ⟨by rfl, ?_⟩, fun _ => rfl⟩ ?_
            rotate_left
            focus (intro w'; first | (go_simp; done) | (go_simp; with_reducible rfl))
            try simp only [Act.put, List.setIfInBounds_toArray, List.set_cons_zero, List.set_cons_succ]
            refine wpAnyIn_done (by kernel_rfl) ?_ _
            dsimp only [onlyN]
            refine hKc _ _ (Met.intro (hJc _ _ ?_))
            repeat apply Exists.intro
            refine ⟨?rel, rfl⟩
            case rel => exact ⟨false, rfl, Lib.hid (fun h => by cases h), Lib.hid (fun _ => ⟨_, EF.out, H3.out, HB3.out⟩)⟩
          · skip
            have H3 := Lib.hid hJx3
            clear hJx3 hy
            try dsimp only
            refine hK.out _ _ ?_
            clear hK K
            try simp only [Act.put, List.setIfInBounds_toArray, List.set_cons_zero, List.set_cons_succ]
            refine wpAnyIn_take (i := 12) (v := ?_) rfl (by simp only [List.getElem?_toArray, List.getElem?_cons_succ, List.getElem?_cons_zero]; rfl) (by kernel_rfl) (by kernel_rfl) (by kernel_rfl) (by exact fun _ _ _ h => h) ⟨Or.inl ⟨by rfl, ?_⟩, fun _ => rfl⟩ ?_
            rotate_left
            focus (intro w'; first | (go_simp; done) | (go_simp; with_reducible rfl))
            try simp only [Act.put, List.setIfInBounds_toArray, List.set_cons_zero, List.set_cons_succ]
            refine wpAnyIn_take (i := 13) (v := ?_) rfl (by simp only [List.getElem?_toArray, List.getElem?_cons_succ, List.getElem?_cons_zero]; rfl) (by kernel_rfl) (by kernel_rfl) (by kernel_rfl) (by exact fun _ _ _ h => h) ⟨Or.inl ⟨by rfl, ?_⟩, fun _ => rfl⟩ ?_
            rotate_left
            focus (intro w'; first | (go_simp; done) | (go_simp; with_reducible rfl))
            try simp only [Act.put, List.setIfInBounds_toArray, List.set_cons_zero, List.set_cons_succ]
            refine wpAnyIn_done (by kernel_rfl) ?_ _
            dsimp only [onlyN]
            refine hKc _ _ (Met.intro (hJc _ _ ?_))
            repeat apply Exists.intro
            refine ⟨?rel, rfl⟩
            case rel => exact ⟨true, rfl, Lib.hid (fun _ => ⟨_, H3.out⟩), Lib.hid (fun h => by cases h)⟩
        · have EF := Lib.hid (minP_no (f := wetF hi m l s level) (k := k) (decide_eq_false hwet))
          rw [hE.out] at EF
          refine wpIn_region_headIn (S := fun w' => w'.cell? ⟨Bf, 0, none⟩ = some (.int .i64 m) ∧ w'.cell? ⟨Bf, 1, none⟩ = some (.slice A l.length c) ∧ w'.cell? ⟨Bf, 2, none⟩ = some (.slice A' s.length c') ∧ w'.cell? ⟨Be, 0, none⟩ = some (.int .i64 e0) ∧ w'.cell? ⟨Bl, 0, none⟩ = some (.int .i64 level) ∧ Hid (Below w.heap.size w w')) 5 9 rfl (by kernel_rfl) (by kernel_rfl) ?_ (fun hHeld => ?_)
          · exact HS.out _ hb.out.drew
          refine heldTo_take (lets_wide _ _) (by kernel_rfl) 5 (i := 0) (v := ?_) (by kernel_rfl) (by simp only [List.getElem?_toArray, List.getElem?_cons_zero]; rfl) (by kernel_rfl) (by kernel_rfl) (by kernel_rfl) (by exact fun _ _ _ h => h) (Or.inl ⟨by rfl, ?_⟩) (by assumption) ?_
          rotate_left
          focus (intro w' hSw; (try dsimp only at hSw); first | (go_simp; done) | (go_simp; with_reducible rfl))
          try simp only [Act.put, List.setIfInBounds_toArray, List.set_cons_zero, List.set_cons_succ]
          refine heldTo_take (lets_wide _ _) (by kernel_rfl) 5 (i := 1) (v := ?_) (by kernel_rfl) (by simp only [List.getElem?_toArray, List.getElem?_cons_succ, List.getElem?_cons_zero]; rfl) (by kernel_rfl) (by kernel_rfl) (by kernel_rfl) (by exact fun _ _ _ h => h) (Or.inl ⟨by rfl, ?_⟩) (by assumption) ?_
          rotate_left
          focus (intro w' hSw; (try dsimp only at hSw); first | (go_simp; done) | (go_simp; with_reducible rfl))
          try simp only [Act.put, List.setIfInBounds_toArray, List.set_cons_zero, List.set_cons_succ]
          refine heldTo_take (lets_wide _ _) (by kernel_rfl) 5 (i := 2) (v := ?_) (by kernel_rfl) (by simp only [List.getElem?_toArray, List.getElem?_cons_succ, List.getElem?_cons_zero]; rfl) (by kernel_rfl) (by kernel_rfl) (by kernel_rfl) (by exact fun _ _ _ h => h) (Or.inl ⟨by rfl, ?_⟩) (by assumption) ?_
          rotate_left
          focus (intro w' hSw; (try dsimp only at hSw); first | (go_simp; done) | (go_simp; with_reducible rfl))
          try simp only [Act.put, List.setIfInBounds_toArray, List.set_cons_zero, List.set_cons_succ]
          refine heldTo_take (lets_wide _ _) (by kernel_rfl) 5 (i := 4) (v := ?_) (by kernel_rfl) (by simp only [List.getElem?_toArray, List.getElem?_cons_succ, List.getElem?_cons_zero]; rfl) (by kernel_rfl) (by kernel_rfl) (by kernel_rfl) (by exact fun _ _ _ h => h) (Or.inl ⟨by rfl, ?_⟩) (by assumption) ?_
          rotate_left
          focus (intro w' hSw; (try dsimp only at hSw); first | (go_simp; done) | (go_simp; with_reducible rfl))
          try simp only [Act.put, List.setIfInBounds_toArray, List.set_cons_zero, List.set_cons_succ]
          refine heldTo_one (i := 3) (by kernel_rfl) (by simp only [List.getElem?_toArray, List.getElem?_cons_succ, List.getElem?_cons_zero]; rfl) (by rfl) (fun K hK => ?_)
          unfold Oper.wpIn
          refine ⟨fun _ _ => trivial, ?_⟩
          rw [Oper.semAt_eq _ _ _ (fun c h => by cases h)]
          go_simp
          have kB := Lib.hid hHeld.2.2.2.2.2.out
          refine callsIn_wide.2 ((HEND.out m _ _ l s (k : Int) _ (HP.out.below kB.out) (HU.out.below kB.out)).mono ?_)
          rintro e w1 ⟨rfl, hbk⟩
          have B1 := Lib.hid (kB.out.trans (hbk.mono kB.out.size))
          have J1 := Lib.hid (HJ.out _ _ w1 none hJs.out (below_grown (((Below.refl wr.heap.size wr).drew).trans hbk)) (fun r e => by cases e))
          clear hbk kB hHeld
          try dsimp only
          refine hK.out _ _ ?_ (fun hHeld => ?_)
          · exact HS.out _ B1.out
          clear hK K
          try simp only [Act.put, List.setIfInBounds_toArray, List.set_cons_zero, List.set_cons_succ]
          refine heldTo_end ?_
          try dsimp only
          clear hHeld
          refine wpAnyIn_take (i := 5) (v := ?_) rfl (by simp only [List.getElem?_toArray, List.getElem?_cons_succ, List.getElem?_cons_zero]; rfl) (by kernel_rfl) (by kernel_rfl) (by kernel_rfl) (by exact fun _ _ _ h => h) ⟨Or.inl ⟨by rfl, ?_⟩, fun _ => rfl⟩ ?_
          rotate_left
          focus (intro w'; first | (go_simp; done) | (go_simp; with_reducible rfl))
          try simp only [Act.put, List.setIfInBounds_toArray, List.set_cons_zero, List.set_cons_succ]
          refine wpAnyIn_take (i := 6) (v := ?_) rfl (by simp only [List.getElem?_toArray, List.getElem?_cons_succ, List.getElem?_cons_zero]; rfl) (by kernel_rfl) (by kernel_rfl) (by kernel_rfl) (by exact fun _ _ _ h => h) ⟨Or.inl ⟨by rfl, ?_⟩, fun _ => rfl⟩ ?_
          rotate_left
          focus (intro w'; first | (go_simp; done) | (go_simp; with_reducible rfl))
          try simp only [Act.put, List.setIfInBounds_toArray, List.set_cons_zero, List.set_cons_succ]
          refine wpAnyIn_take (i := 7) (v := undef) rfl (by simp only [List.getElem?_toArray, List.getElem?_cons_succ, List.getElem?_cons_zero]; rfl) (by kernel_rfl) (by kernel_rfl) (by kernel_rfl) (by exact fun _ _ _ h => h) ⟨Or.inr ⟨by rfl, rfl⟩, fun _ => rfl⟩ ?_
          try simp only [Act.put, List.setIfInBounds_toArray, List.set_cons_zero, List.set_cons_succ]
          refine wpAnyIn_take (i := 8) (v := undef) rfl (by simp only [List.getElem?_toArray, List.getElem?_cons_succ, List.getElem?_cons_zero]; rfl) (by kernel_rfl) (by kernel_rfl) (by kernel_rfl) (by exact fun _ _ _ h => h) ⟨Or.inr ⟨by rfl, rfl⟩, fun _ => rfl⟩ ?_
          try simp only [Act.put, List.setIfInBounds_toArray, List.set_cons_zero, List.set_cons_succ]
          refine wpAnyIn_take (i := 9) (v := undef) rfl (by simp only [List.getElem?_toArray, List.getElem?_cons_succ, List.getElem?_cons_zero]; rfl) (by kernel_rfl) (by kernel_rfl) (by kernel_rfl) (by exact fun _ _ _ h => h) ⟨Or.inr ⟨by rfl, rfl⟩, fun _ => rfl⟩ ?_
          try simp only [Act.put, List.setIfInBounds_toArray, List.set_cons_zero, List.set_cons_succ]
          refine wpAnyIn_take (i := 10) (v := undef) rfl (by simp only [List.getElem?_toArray, List.getElem?_cons_succ, List.getElem?_cons_zero]; rfl) (by kernel_rfl) (by kernel_rfl) (by kernel_rfl) (by exact fun _ _ _ h => h) ⟨Or.inr ⟨by rfl, rfl⟩, fun _ => rfl⟩ ?_
          try simp only [Act.put, List.setIfInBounds_toArray, List.set_cons_zero, List.set_cons_succ]
          refine wpAnyIn_take (i := 11) (v := undef) rfl (by simp only [List.getElem?_toArray, List.getElem?_cons_succ, List.getElem?_cons_zero]; rfl) (by kernel_rfl) (by kernel_rfl) (by kernel_rfl) (by exact fun _ _ _ h => h) ⟨Or.inr ⟨by rfl, rfl⟩, fun _ => rfl⟩ ?_
          try simp only [Act.put, List.setIfInBounds_toArray, List.set_cons_zero, List.set_cons_succ]
          refine wpAnyIn_take (i := 12) (v := undef) rfl (by simp only [List.getElem?_toArray, List.getElem?_cons_succ, List.getElem?_cons_zero]; rfl) (by kernel_rfl) (by kernel_rfl) (by kernel_rfl) (by exact fun _ _ _ h => h) ⟨Or.inr ⟨by rfl, rfl⟩, fun _ => rfl⟩ ?_
          try simp only [Act.put, List.setIfInBounds_toArray, List.set_cons_zero, List.set_cons_succ]
          refine wpAnyIn_take (i := 13) (v := ?_) rfl (by simp only [List.getElem?_toArray, List.getElem?_cons_succ, List.getElem?_cons_zero]; rfl) (by kernel_rfl) (by kernel_rfl) (by kernel_rfl) (by exact fun _ _ _ h => h) ⟨Or.inl ⟨by rfl, ?_⟩, fun _ => rfl⟩ ?_
          rotate_left
          focus (intro w'; first | (go_simp; done) | (go_simp; with_reducible rfl))
          try simp only [Act.put, List.setIfInBounds_toArray, List.set_cons_zero, List.set_cons_succ]
          refine wpAnyIn_done (by kernel_rfl) ?_ _
          dsimp only [onlyN]
          refine hKc _ _ (Met.intro (hJc _ _ ?_))
          repeat apply Exists.intro
          refine ⟨?rel, rfl⟩
          case rel => exact ⟨false, rfl, Lib.hid (fun h => by cases h), Lib.hid (fun _ => ⟨_, EF.out, J1.out, B1.out⟩)⟩
      case rest =>
        obtain ⟨b, rfl, hbt, hbf⟩ := hcut
        cases b with
        | true =>
          obtain ⟨pre, hpre⟩ := hbt.out rfl
          have H3 := Lib.hid hpre
          clear hpre hbt hbf
          gi_wp2
          refine bodyPost_ret (results_none rfl _ _ _) rfl ?_
          exact ⟨⟨_, rfl⟩, .inr ⟨_, trivial, H3.out⟩⟩
        | false =>
          obtain ⟨acc', e1, hj, hbb⟩ := hbf.out rfl
          have E3 := Lib.hid e1
          have H3 := Lib.hid hj
          have HB3 := Lib.hid hbb
          have hs3 := hbb.size
          clear e1 hj hbb hbt hbf
          gi_wp2
          go_roundw
          case rel => exact ⟨k + 1, acc', by omega, by go_num, E3, H3, HB3, hs3⟩
          case measure => simp [intOf]; omega
end Go.Proofs.YtpimcbhjkednpaaGreat
namespace Go.Proofs.YtpimcbhjkednpaaGreat
open Go.RowKit
set_option maxRecDepth 100000
@[reducible] def boolCells (b : Bool) : List Value := [.bool b]
theorem boolLen (b : Bool) : (boolCells b).length = 1 := rfl
def SlBool : World → Value → List Bool → Prop := SlOf 1 boolCells
def markF (l : List Bool) (j : Nat) : Bool := l[j]?.getD false
theorem markF_at {l : List Bool} {k : Nat} {b : Bool} (h : l[k]? = some b) : markF l k = b := by unfold markF; rw [h]; rfl
theorem GathW.set {w wr : World} {acc : List WindowD} {y : WindowD} {g cap : Nat} (t : Int) (h : GathW w (.slice (some ⟨g, 0, none⟩) (acc.length + 1) cap) (acc ++ [y]) wr) :
    GathW w (.slice (some ⟨g, 0, none⟩) (acc.length + 1) cap) (acc ++ [⟨y.fr, t⟩]) (wr.setCell ⟨g, acc.length * 2 + 1, none⟩ (.int .i64 t)) := by
  have hrow : wr.ownsRow w.heap.size 77 2 (.slice (some ⟨g, 0, none⟩) (acc.length + 1) cap) (acc.length + 1) ((acc ++ [y]).flatMap WindowD.cells) := by
    have := h.1
    unfold OwnWindow OwnOf at this
    rw [show (acc ++ [y]).length = acc.length + 1 by simp] at this
    exact this
  have hst := (World.ownsRow.stored hrow (acc.length * 2 + 1) (.int .i64 t)).1
  rw [flat_set] at hst
  refine ⟨?_, h.2.setCell (p := ⟨g, acc.length * 2 + 1, none⟩) (World.ownsRow.lt hrow g rfl).1 _⟩
  show World.ownsRow _ _ _ _ _ _ _
  rw [show (acc ++ [(⟨y.fr, t⟩ : WindowD)]).length = acc.length + 1 by simp]
  exact hst
theorem GathW.last {w wr : World} {acc : List WindowD} {y : WindowD} {v : Value} (h : GathW w v (acc ++ [y]) wr) :
    ∃ g cap, v = .slice (some ⟨g, 0, none⟩) (acc.length + 1) cap ∧ wr.cell? ⟨g, acc.length * 2 + 1, none⟩ = some (.int .i64 y.tt) ∧ wr.frozen? ⟨g, acc.length * 2 + 1, none⟩ = false := by
  have hrow : wr.ownsRow w.heap.size 77 2 v (acc.length + 1) ((acc ++ [y]).flatMap WindowD.cells) := by
    have := h.1
    unfold OwnWindow OwnOf at this
    rw [show (acc ++ [y]).length = acc.length + 1 by simp] at this
    exact this
  obtain ⟨g, cap, rfl⟩ := ownsRow_succ hrow
  exact ⟨g, cap, rfl, (World.ownsRow.cellAt hrow (acc.length * 2 + 1) (by omega)).trans (flat_last acc y).2, World.ownsRow.frozenAt hrow _⟩
theorem GathW.nextN {w W w4 : World} {v : Value} {acc : List WindowD} {x : WindowD} {g4 cap4 n : Nat} (e : n = acc.length) (h : GathW w v acc W)
    (hown : w4.ownsRow w.heap.size 77 2 (.slice (some ⟨g4, 0, none⟩) (n + 1) cap4) (n + 1) (acc.flatMap WindowD.cells ++ x.cells)) (hgr : W.grownBy w4 v.ownBlock) :
    GathW w (.slice (some ⟨g4, 0, none⟩) (n + 1) cap4) (acc ++ [x]) w4 := by subst e; exact h.next hown hgr
theorem GathW.row {w W : World} {v : Value} {acc : List WindowD} {n : Nat} (e : n = acc.length) (h : GathW w v acc W) : W.ownsRow w.heap.size 77 2 v n (acc.flatMap WindowD.cells) := by subst e; exact h.1
set_option maxHeartbeats 8000000 in
theorem l04Of_any (v : Value) (l : List Bool) (w : World) (h : SlBool w v l) (hlen : l.length ≤ 100000) :
    Calls Tryz.prog 97 #[v] w (NewWindow (ofMarks (markF l) l.length) w) := by
  obtain ⟨i0, hin, hz0, hzs, hz2⟩ := info_parts info_window
  have HI := Lib.hid hin
  clear hin
  obtain ⟨hl, h⟩ := h
  rcases h with ⟨rfl, A, c, rfl⟩ | ⟨g, o, c, rfl, hp, hcap, hc⟩
  · go_enter Tryz.func97, Tryz.ntmps97
    go_wp2
    have G0 := Lib.hid (GathW.made (Below.refl w.heap.size w))
    refine wp_loop_rounds 1 ?_
    rw [rounds_succ]
    go_wp2
    go_ret
    exact G0.out.new rfl
  · have HC := Lib.hid hc
    clear hc
    go_enter Tryz.func97, Tryz.ntmps97
    go_wp2
    have G0 := Lib.hid (GathW.made (Below.refl w.heap.size w))
    go_loopw [3, 9] (fun s i wr => ∃ (k : Nat) (acc : List WindowD), k ≤ l.length ∧ i = .int .i64 k ∧ Hid (ofMarks (markF l) k = acc) ∧ Hid (GathW w s acc wr)) (fun _ i _ => l.length - (intOf i).toNat)
    case atStart => exact ⟨0, [], Nat.zero_le _, rfl, Lib.hid rfl, G0⟩
    case round =>
      obtain ⟨k, acc, hk, rfl, hE, hG⟩ := hrel
      have hal := ofMarks_len (markF l) k
      rw [hE.out] at hal
      have hsz := hG.out.size
      by_cases hlt : k < l.length
      rotate_left
      · obtain rfl : k = l.length := by omega
        go_wp2
        go_ret
        exact hG.out.new hE.out
      · obtain ⟨b, hb⟩ : ∃ b, l[k]? = some b := ⟨_, List.getElem?_eq_getElem hlt⟩
        have p0 := HC.out k b hb 0 _ rfl
        simp only [Nat.mul_one, Nat.add_zero] at p0
        have hg : g < w.heap.size := World.block_lt_of_cell? w ⟨g, o + k, none⟩ p0
        have a0 := (hG.out.2.cell (p := ⟨g, o + k, none⟩) hg).trans p0
        have hF := markF_at hb
        clear p0 hb
        cases b with
        | false =>
          have EF := Lib.hid ((ofMarks_no hF).trans hE.out)
          clear hF
          go_wp2
          go_roundw
          case rel => exact ⟨k + 1, _, by omega, by go_num, EF, hG⟩
          case measure => simp [intOf]; omega
        | true =>
          have EF := Lib.hid (ofMarks_yes hF)
          rw [hE.out] at EF
          clear hF
          rcases snoc_or acc with e | ⟨acc', y, e⟩
          · subst e
            rw [markStep_nil] at EF
            obtain ⟨A, c', rfl⟩ := hG.out.form
            have hW := Lib.hid (Joins.below_alloc1 wr (.cells #[.int .i64 k, .int .i64 k] 77))
            have GW := Lib.hid (hG.out.below hW.out)
            have HN := Lib.hid (World.news_of_block (heap_alloc_new wr (.cells #[.int .i64 k, .int .i64 k] 77)))
            go_wp2_with (at_builtin; refine wpList_append_lies _ rfl _ _ _ rfl w.heap.size 77 i0 _ 2 16 Tryz.underlying37 HI.out hz0 (by assumption) hz2 rfl (by omega) _ ([] : List WindowD).length (([] : List WindowD).flatMap WindowD.cells) rfl GW.out.1 ⟨wr.heap.size, 0, none⟩ 1 1 (WindowD.cells ⟨k, k⟩) (by first | rfl | simp) rfl (by simpa using HN.out) (window_one _) (by omega) (by unfold maxLen; omega) (by omega) (by simp; omega) _ rfl ?_; intro g4 cap4 w4 hown4 hgrow4 hor4 hlt4; have GX := Lib.hid (GW.out.next (x := ⟨k, k⟩) hown4 hgrow4); clear hown4 hgrow4 hor4 hlt4)
            go_roundw
            case rel => exact ⟨k + 1, _, by omega, by go_num, EF, GX⟩
            case measure => simp [intOf]; omega
          · subst e
            obtain ⟨g', cap, rfl, q1, q2⟩ := hG.out.last
            have hidx : (acc'.length : Int) < (acc'.length : Int) + 1 := by omega
            have hla : acc'.length + 1 ≤ k := by simpa using hal
            by_cases hy : y.tt = (k : Int) - 1
            · rw [markStep_join hy] at EF
              have GS := Lib.hid (hG.out.set (k : Int))
              go_wp2
              go_roundw
              case rel => exact ⟨k + 1, _, by omega, by go_num, EF, GS⟩
              case measure => simp [intOf]; omega
            · rw [markStep_apart hy] at EF
              have hW := Lib.hid (Joins.below_alloc1 wr (.cells #[.int .i64 k, .int .i64 k] 77))
              have GW := Lib.hid (hG.out.below hW.out)
              have HN := Lib.hid (World.news_of_block (heap_alloc_new wr (.cells #[.int .i64 k, .int .i64 k] 77)))
              have hel : acc'.length + 1 = (acc' ++ [y]).length := by simp
              obtain ⟨acc, hacc⟩ : ∃ acc, acc' ++ [y] = acc := ⟨_, rfl⟩
              rw [hacc] at hel GW EF
              have HEL := Lib.hid hel
              clear hacc hel
              go_wp2_with (at_builtin; refine wpList_append_lies _ rfl _ _ _ rfl w.heap.size 77 i0 _ 2 16 Tryz.underlying37 HI.out hz0 (by assumption) hz2 rfl (by omega) _ (acc'.length + 1) (acc.flatMap WindowD.cells) rfl (GW.out.row HEL.out) ⟨wr.heap.size, 0, none⟩ 1 1 (WindowD.cells ⟨k, k⟩) (by first | rfl | simp) rfl (by simpa using HN.out) (window_one _) (by omega) (by unfold maxLen; omega) (by omega) (by simp; omega) _ rfl ?_; intro g4 cap4 w4 hown4 hgrow4 hor4 hlt4; have GX := Lib.hid (GW.out.nextN (x := ⟨k, k⟩) HEL.out hown4 hgrow4); clear hown4 hgrow4 hor4 hlt4)
              go_roundw
              case rel => exact ⟨k + 1, _, by omega, by go_num, EF, GX⟩
              case measure => simp [intOf]; omega
end Go.Proofs.YtpimcbhjkednpaaGreat
namespace Go.Proofs.YtpimcbhjkednpaaGreat
open Go.RowKit
set_option maxRecDepth 100000
def bits (f : Nat → Bool) : List Bool := (List.range 2881).map f
theorem bits_len (f : Nat → Bool) : (bits f).length = 2881 := by simp [bits]
theorem bits_at (f : Nat → Bool) {j : Nat} (h : j < 2881) : (bits f)[j]? = some (f j) := by
  unfold bits; rw [List.getElem?_map, List.getElem?_range h]; rfl
theorem ofMarks_congr {f g : Nat → Bool} : ∀ n, (∀ j, j < n → f j = g j) → ofMarks f n = ofMarks g n := by
  intro n
  induction n with
  | zero => intro _; rfl
  | succ n ih =>
    intro h
    have := ih fun j hj => h j (by omega)
    simp only [ofMarks, this, h n (by omega)]
theorem ofMarks_bits (f : Nat → Bool) : ofMarks (markF (bits f)) (bits f).length = ofMarks f 2881 := by
  rw [bits_len]
  exact ofMarks_congr 2881 fun j hj => markF_at (bits_at f hj)
theorem flat_bool (l : List Bool) : l.flatMap boolCells = l.map Value.bool := by
  induction l with
  | nil => rfl
  | cons b l ih => simp [List.flatMap_cons, ih]
theorem info_bool : (Tryz.prog.info? 4).map (fun i => (i.zero, i.size, i.bytes)) = some (some (.bool false), 1, 1) := by kernel_rfl
end Go.Proofs.YtpimcbhjkednpaaGreat
