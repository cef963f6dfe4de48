
/- What ExactLockPlanOk and ExactAppendLocking rests on, part 6: contracts and mathematics. -/
import Derived.Test.YtlddampjbmklkaaBl3
import Derived.Test.YtlddampjbmklkaaBl2
import Derived.Test.YtlddampjbmklkaaBl1
import Derived.Test.YtlddampjbmklkaaBl4
import Derived.Test.YtlddampjbmklkaaBl5
import Derived.Test.YtlddampjbmklkaaBl0
import Derived.StillTailTactics
namespace Go.Proofs.Ytlddampjbmklkaa
set_option maxRecDepth 100000
def chamB (k : ChamberD) : Bool := inB k.length 10 1000 && inB k.lanes 1 3 && inB k.minutes 1 120
def lensB (l : List Int) : Bool := decide (l.length ≤ 8) && l.all (fun n => inB n 1 400)
theorem chamB_true {k : ChamberD} (h : chamB k = true) : 10 ≤ k.length ∧ k.length ≤ 1000 ∧ 1 ≤ k.lanes ∧ k.lanes ≤ 3 ∧ 1 ≤ k.minutes ∧ k.minutes ≤ 120 := by
  unfold chamB inB at h
  simp only [Bool.and_eq_true, decide_eq_true_iff] at h
  omega
theorem lensB_len {l : List Int} (h : lensB l = true) : l.length ≤ 8 := by
  unfold lensB at h
  simp only [Bool.and_eq_true, decide_eq_true_iff] at h
  exact h.1
theorem lensB_at {l : List Int} (h : lensB l = true) {i : Nat} {n : Int} (hn : l[i]? = some n) : 1 ≤ n ∧ n ≤ 400 := by
  unfold lensB at h
  simp only [Bool.and_eq_true, List.all_eq_true] at h
  exact of_decide_eq_true (h.2 n (List.mem_of_getElem? hn))
/-- The first k lengths are right. -/
def LensTo (l : List Int) (k : Nat) : Prop := ∀ i n, i < k → l[i]? = some n → inB n 1 400 = true
theorem LensTo.next {l : List Int} {k : Nat} {n : Int} (h : LensTo l k) (hn : l[k]? = some n) (hb : inB n 1 400 = true) : LensTo l (k + 1) := fun i m hi hm => by
  by_cases e : i = k
  · subst e; rw [hn] at hm; injection hm with hm; rw [← hm]; exact hb
  · exact h i m (by omega) hm
theorem LensTo.all {l : List Int} (h : LensTo l l.length) (hl : l.length ≤ 8) : lensB l = true := by
  unfold lensB
  rw [decide_eq_true hl, Bool.true_and, List.all_eq_true]
  intro n hn
  obtain ⟨i, hi, e⟩ := List.getElem_of_mem hn
  exact h i n hi (by rw [List.getElem?_eq_getElem hi, e])
theorem lensB_long {l : List Int} (h : ¬ l.length ≤ 8) : lensB l = false := by unfold lensB; rw [decide_eq_false h]; rfl
theorem lensB_no {l : List Int} {i : Nat} {n : Int} (hn : l[i]? = some n) (hb : inB n 1 400 = false) : lensB l = false := by
  cases h : lensB l with
  | false => rfl
  | true =>
    have := lensB_at h hn
    exact absurd (show inB n 1 400 = true from decide_eq_true this) (by rw [hb]; simp)
/-- The least lane from j on in which a ship can lie so that the others can be packed behind it. -/
def laneR (L n : Int) (used : List Int) (rest : List Int → Option (List Int)) : Nat → Nat → Option (List Int)
  | _, 0 => none
  | j, m + 1 =>
    match (if used.getD j 0 + n ≤ L then rest (used.set j (used.getD j 0 + n)) else none) with
    | some out => some ((j : Int) :: out)
    | none => laneR L n used rest (j + 1) m
/-- The lexicographically least packing of the ships, on top of what is used. -/
def packR (L : Int) (lanes : Nat) : List Int → List Int → Option (List Int)
  | [], _ => some []
  | n :: l, used => laneR L n used (packR L lanes l) 0 lanes
/-- What lies in a lane. -/
def sumIn : List Int → List Int → Nat → Int
  | n :: l, s :: ss, j => (if s = (j : Int) then n else 0) + sumIn l ss j
  | _, _, _ => 0
/-- Whether a division into lanes fits on top of what is used. -/
def Fits (L : Int) (lanes : Nat) (l s used : List Int) : Prop := s.length = l.length ∧ (∀ x ∈ s, 0 ≤ x ∧ x < (lanes : Int)) ∧ ∀ j, j < lanes → used.getD j 0 + sumIn l s j ≤ L
theorem laneR_some {L n : Int} {used : List Int} {rest : List Int → Option (List Int)} : ∀ {m j : Nat} {o : List Int}, laneR L n used rest j m = some o → ∃ i out, j ≤ i ∧ i < j + m ∧ o = (i : Int) :: out ∧ used.getD i 0 + n ≤ L ∧ rest (used.set i (used.getD i 0 + n)) = some out
  | 0, j, o, h => by cases h
  | m + 1, j, o, h => by
    unfold laneR at h
    split at h
    · rename_i out hx
      injection h with e
      by_cases hf : used.getD j 0 + n ≤ L
      · rw [if_pos hf] at hx
        exact ⟨j, out, Nat.le_refl _, by omega, e.symm, hf, hx⟩
      · rw [if_neg hf] at hx; cases hx
    · obtain ⟨i, out, h1, h2, h3⟩ := laneR_some h
      exact ⟨i, out, by omega, by omega, h3⟩
theorem laneR_none {L n : Int} {used : List Int} {rest : List Int → Option (List Int)} : ∀ {m j : Nat}, laneR L n used rest j m = none → ∀ i, j ≤ i → i < j + m → used.getD i 0 + n ≤ L → rest (used.set i (used.getD i 0 + n)) = none
  | 0, j, _, i, h1, h2, _ => by omega
  | m + 1, j, h, i, h1, h2, hf => by
    unfold laneR at h
    split at h
    · cases h
    · rename_i hx
      by_cases e : i = j
      · subst e
        rw [if_pos hf] at hx
        exact hx
      · exact laneR_none h i (by omega) (by omega) hf
theorem getD_set_same (l : List Int) (i : Nat) (x : Int) (h : i < l.length) : (l.set i x).getD i 0 = x := by simp [List.getD, h]
theorem getD_set_other (l : List Int) {i j : Nat} (x : Int) (h : i ≠ j) : (l.set i x).getD j 0 = l.getD j 0 := by simp [List.getD, h]
/-- What is packed fits. -/
theorem packR_fits {L : Int} {lanes : Nat} : ∀ {l used s : List Int}, used.length = lanes → (∀ j, j < lanes → used.getD j 0 ≤ L) → packR L lanes l used = some s → Fits L lanes l s used
  | [], used, s, _, hu, h => by
    injection h with e
    subst e
    exact ⟨rfl, by simp, fun j hj => by simp [sumIn]; exact hu j hj⟩
  | n :: l, used, s, hl, hu, h => by
    obtain ⟨i, out, -, hi, rfl, hf, ho⟩ := laneR_some h
    have hil : i < used.length := by omega
    have ih := packR_fits (l := l) (used := used.set i (used.getD i 0 + n)) (by simpa using hl) (fun j hj => by
      by_cases e : i = j
      · subst e; rw [getD_set_same _ _ _ hil]; exact hf
      · rw [getD_set_other _ _ e]; exact hu j hj) ho
    obtain ⟨h1, h2, h3⟩ := ih
    refine ⟨by simp [h1], fun x hx => ?_, fun j hj => ?_⟩
    · rcases List.mem_cons.1 hx with rfl | hx
      · omega
      · exact h2 x hx
    · have := h3 j hj
      show used.getD j 0 + ((if (i : Int) = (j : Int) then n else 0) + sumIn l out j) ≤ L
      by_cases e : i = j
      · subst e; rw [getD_set_same _ _ _ hil] at this; rw [if_pos rfl]; omega
      · rw [getD_set_other _ _ e] at this; rw [if_neg (by omega)]; omega
/-- What is not packed fits in no way. -/
theorem packR_none {L : Int} {lanes : Nat} : ∀ {l used s : List Int}, used.length = lanes → (∀ n ∈ l, 0 ≤ n) → packR L lanes l used = none → ¬ Fits L lanes l s used
  | [], used, s, _, _, h => by cases h
  | n :: l, used, s, hl, hn, h => by
    rintro ⟨h1, h2, h3⟩
    cases s with
    | nil => simp at h1
    | cons x ss =>
      obtain ⟨x0, x1⟩ := h2 x (by simp)
      obtain ⟨i, rfl⟩ : ∃ i : Nat, x = (i : Int) := ⟨x.toNat, by omega⟩
      have hi : i < lanes := by omega
      have hil : i < used.length := by omega
      have pos : ∀ (l s : List Int) (j : Nat), (∀ n ∈ l, 0 ≤ n) → 0 ≤ sumIn l s j := by
        intro l
        induction l with
        | nil => intro s j _; simp [sumIn]
        | cons a l ih =>
          intro s j ha
          cases s with
          | nil => simp [sumIn]
          | cons b s =>
            have h1 := ih s j (fun x hx => ha x (by simp [hx]))
            have h2 := ha a (by simp)
            show 0 ≤ (if b = (j : Int) then a else 0) + sumIn l s j
            split <;> omega
      have hf : used.getD i 0 + n ≤ L := by
        have e := h3 i hi
        have : sumIn (n :: l) ((i : Int) :: ss) i = n + sumIn l ss i := by show (if (i : Int) = (i : Int) then n else 0) + _ = _; rw [if_pos rfl]
        rw [this] at e
        have := pos l ss i (fun x hx => hn x (by simp [hx]))
        omega
      have hr := laneR_none h i (Nat.zero_le _) (by omega) hf
      refine packR_none (s := ss) (by simpa using hl) (fun x hx => hn x (by simp [hx])) hr ⟨by simpa using h1, fun x hx => h2 x (by simp [hx]), fun j hj => ?_⟩
      have e := h3 j hj
      have e2 : sumIn (n :: l) ((i : Int) :: ss) j = (if (i : Int) = (j : Int) then n else 0) + sumIn l ss j := rfl
      rw [e2] at e
      by_cases hij : i = j
      · subst hij; rw [getD_set_same _ _ _ hil]; rw [if_pos rfl] at e; omega
      · rw [getD_set_other _ _ hij]; rw [if_neg (by omega)] at e; omega
def packO (k : ChamberD) (l : List Int) : Option (List Int) := if chamB k = true ∧ lensB l = true then packR k.length k.lanes.toNat l (List.replicate k.lanes.toNat 0) else none
theorem packO_bad {k : ChamberD} {l : List Int} (h : ¬ (chamB k = true ∧ lensB l = true)) : packO k l = none := if_neg h
theorem packO_ok {k : ChamberD} {l : List Int} (h1 : chamB k = true) (h2 : lensB l = true) : packO k l = packR k.length k.lanes.toNat l (List.replicate k.lanes.toNat 0) := if_pos ⟨h1, h2⟩
end Go.Proofs.Ytlddampjbmklkaa
namespace Go.Proofs.Ytlddampjbmklkaa
open Go.RowKit
set_option maxRecDepth 100000
def shipB (d : ShipD) : Bool := nameB d.name && inB d.length 10 400 && inB d.draught 100 2000 && inB d.line 0 3 && inB d.tugs 0 4
theorem shipB_of {d : ShipD} {b0 b1 b2 b3 b4 : Bool} (h0 : nameB d.name = b0) (h1 : inB d.length 10 400 = b1) (h2 : inB d.draught 100 2000 = b2) (h3 : inB d.line 0 3 = b3) (h4 : inB d.tugs 0 4 = b4) : shipB d = (b0 && b1 && b2 && b3 && b4) := by unfold shipB; rw [h0, h1, h2, h3, h4]
set_option maxHeartbeats 4000000 in
theorem specShipOk (d : ShipD) (w : World) (hw : d.wf) :
    Calls Try.prog 77 #[d.val] w fun e w' => e = .returned (.bool (shipB d)) ∧ Below w.heap.size w w' := by
  replace hw : d.name.size ≤ maxLen := hw.1
  obtain ⟨b0, h0⟩ : ∃ b, nameB d.name = b := ⟨_, rfl⟩
  obtain ⟨b1, h1⟩ : ∃ b, inB d.length 10 400 = b := ⟨_, rfl⟩
  obtain ⟨b2, h2⟩ : ∃ b, inB d.draught 100 2000 = b := ⟨_, rfl⟩
  obtain ⟨b3, h3⟩ : ∃ b, inB d.line 0 3 = b := ⟨_, rfl⟩
  obtain ⟨b4, h4⟩ : ∃ b, inB d.tugs 0 4 = b := ⟨_, rfl⟩
  rw [shipB_of h0 h1 h2 h3 h4]
  obtain ⟨na, le, dr, li, tu, sl⟩ := d
  dsimp only at h0 h1 h2 h3 h4 hw
  dsimp only [ShipD.val]
  have H0 := Lib.hid h0
  have H1 := Lib.hid h1
  have H2 := Lib.hid h2
  have H3 := Lib.hid h3
  have H4 := Lib.hid h4
  clear h0 h1 h2 h3 h4
  have B := Lib.hid (Joins.below_alloc1 w (.cells #[.string na, .int .i64 le, .int .i64 dr, .int .i64 li, .int .i64 tu, .bool sl] 36))

  cases b0 with
  | false =>
    rw [show (false && b1 && b2 && b3 && b4) = false by simp]
    go_enter Try.func77, Try.ntmps77
    go_wp2_with fail
    refine (specIsName na _ hw).mono ?_
    rw [H0.out]
    rintro e w1 ⟨rfl, rfl⟩
    go_wp2
    go_ret
    exact ⟨rfl, B.out⟩
  | true =>
    cases b1 with
    | false =>
      rw [show (true && false && b2 && b3 && b4) = false by simp]
      go_enter Try.func77, Try.ntmps77
      go_wp2_with fail
      refine (specIsName na _ hw).mono ?_
      rw [H0.out]
      rintro e w1 ⟨rfl, rfl⟩
      go_wp2_with fail
      refine (l01In_any _ _ _ _).mono ?_
      rw [H1.out]
      rintro e w2 ⟨rfl, rfl⟩
      go_wp2
      go_ret
      exact ⟨rfl, B.out⟩
    | true =>
      cases b2 with
      | false =>
        rw [show (true && true && false && b3 && b4) = false by simp]
        go_enter Try.func77, Try.ntmps77
        go_wp2_with fail
        refine (specIsName na _ hw).mono ?_
        rw [H0.out]
        rintro e w1 ⟨rfl, rfl⟩
        go_wp2_with fail
        refine (l01In_any _ _ _ _).mono ?_
        rw [H1.out]
        rintro e w2 ⟨rfl, rfl⟩
        go_wp2_with fail
        refine (l01In_any _ _ _ _).mono ?_
        rw [H2.out]
        rintro e w3 ⟨rfl, rfl⟩
        go_wp2
        go_ret
        exact ⟨rfl, B.out⟩
      | true =>
        cases b3 with
        | false =>
          rw [show (true && true && true && false && b4) = false by simp]
          go_enter Try.func77, Try.ntmps77
          go_wp2_with fail
          refine (specIsName na _ hw).mono ?_
          rw [H0.out]
          rintro e w1 ⟨rfl, rfl⟩
          go_wp2_with fail
          refine (l01In_any _ _ _ _).mono ?_
          rw [H1.out]
          rintro e w2 ⟨rfl, rfl⟩
          go_wp2_with fail
          refine (l01In_any _ _ _ _).mono ?_
          rw [H2.out]
          rintro e w3 ⟨rfl, rfl⟩
          go_wp2_with fail
          refine (l01In_any _ _ _ _).mono ?_
          rw [H3.out]
          rintro e w4 ⟨rfl, rfl⟩
          go_wp2
          go_ret
          exact ⟨rfl, B.out⟩
        | true =>
          cases b4 with
          | false =>
            rw [show (true && true && true && true && false) = false by simp]
            go_enter Try.func77, Try.ntmps77
            go_wp2_with fail
            refine (specIsName na _ hw).mono ?_
            rw [H0.out]
            rintro e w1 ⟨rfl, rfl⟩
            go_wp2_with fail
            refine (l01In_any _ _ _ _).mono ?_
            rw [H1.out]
            rintro e w2 ⟨rfl, rfl⟩
            go_wp2_with fail
            refine (l01In_any _ _ _ _).mono ?_
            rw [H2.out]
            rintro e w3 ⟨rfl, rfl⟩
            go_wp2_with fail
            refine (l01In_any _ _ _ _).mono ?_
            rw [H3.out]
            rintro e w4 ⟨rfl, rfl⟩
            go_wp2_with fail
            refine (l01In_any _ _ _ _).mono ?_
            rw [H4.out]
            rintro e w5 ⟨rfl, rfl⟩
            go_wp2
            go_ret
            exact ⟨rfl, B.out⟩
          | true =>
            rw [show (true && true && true && true && true) = true from rfl]
            go_enter Try.func77, Try.ntmps77
            go_wp2_with fail
            refine (specIsName na _ hw).mono ?_
            rw [H0.out]
            rintro e w1 ⟨rfl, rfl⟩
            go_wp2_with fail
            refine (l01In_any _ _ _ _).mono ?_
            rw [H1.out]
            rintro e w2 ⟨rfl, rfl⟩
            go_wp2_with fail
            refine (l01In_any _ _ _ _).mono ?_
            rw [H2.out]
            rintro e w3 ⟨rfl, rfl⟩
            go_wp2_with fail
            refine (l01In_any _ _ _ _).mono ?_
            rw [H3.out]
            rintro e w4 ⟨rfl, rfl⟩
            go_wp2_with fail
            refine (l01In_any _ _ _ _).mono ?_
            rw [H4.out]
            rintro e w5 ⟨rfl, rfl⟩
            go_wp2
            go_ret
            exact ⟨rfl, B.out⟩
set_option maxHeartbeats 4000000 in
theorem implShipOk (d : ShipD) (w : World) (hw : d.wf) :
    Calls Try.prog 71 #[d.val] w fun e w' => e = .returned (.bool (shipB d)) ∧ Below w.heap.size w w' := by
  replace hw : d.name.size ≤ maxLen := hw.1
  obtain ⟨b0, h0⟩ : ∃ b, nameB d.name = b := ⟨_, rfl⟩
  obtain ⟨b1, h1⟩ : ∃ b, inB d.length 10 400 = b := ⟨_, rfl⟩
  obtain ⟨b2, h2⟩ : ∃ b, inB d.draught 100 2000 = b := ⟨_, rfl⟩
  obtain ⟨b3, h3⟩ : ∃ b, inB d.line 0 3 = b := ⟨_, rfl⟩
  obtain ⟨b4, h4⟩ : ∃ b, inB d.tugs 0 4 = b := ⟨_, rfl⟩
  rw [shipB_of h0 h1 h2 h3 h4]
  obtain ⟨na, le, dr, li, tu, sl⟩ := d
  dsimp only at h0 h1 h2 h3 h4 hw
  dsimp only [ShipD.val]
  have H0 := Lib.hid h0
  have H1 := Lib.hid h1
  have H2 := Lib.hid h2
  have H3 := Lib.hid h3
  have H4 := Lib.hid h4
  clear h0 h1 h2 h3 h4
  have B := Lib.hid (Joins.below_alloc1 w (.cells #[.string na, .int .i64 le, .int .i64 dr, .int .i64 li, .int .i64 tu, .bool sl] 36))
  have K := Lib.hid (Blk.new w #[.string na, .int .i64 le, .int .i64 dr, .int .i64 li, .int .i64 tu, .bool sl] 36)

  cases b0 with
  | false =>
    rw [show (false && b1 && b2 && b3 && b4) = false by simp]
    go_enter Try.func71, Try.ntmps71
    go_wp2_with fail
    refine (implIsName na _ hw).mono ?_
    rw [H0.out]
    rintro e w1 ⟨rfl, hb1⟩
    have B1 := Lib.hid (B.out.trans (hb1.mono B.out.size))
    have K1 := K.out.below hb1
    have z1 := K1.cell 1
    have z2 := K1.cell 2
    have z3 := K1.cell 3
    have z4 := K1.cell 4
    simp at z1 z2 z3 z4
    clear hb1 K1
    go_wp2
    go_ret
    exact ⟨rfl, B1.out⟩
  | true =>
    cases b1 with
    | false =>
      rw [show (true && false && b2 && b3 && b4) = false by simp]
      have g1 : ¬ (10 ≤ le ∧ le ≤ 400) := by have := H1.out; unfold inB at this; exact of_decide_eq_false this
      by_cases l1 : 10 ≤ le
      · have u1 : decide (le ≤ 400) = false := decide_eq_false (by omega)
        clear g1
        go_enter Try.func71, Try.ntmps71
        go_wp2_with fail
        refine (implIsName na _ hw).mono ?_
        rw [H0.out]
        rintro e w1 ⟨rfl, hb1⟩
        have B1 := Lib.hid (B.out.trans (hb1.mono B.out.size))
        have K1 := K.out.below hb1
        have z1 := K1.cell 1
        have z2 := K1.cell 2
        have z3 := K1.cell 3
        have z4 := K1.cell 4
        simp at z1 z2 z3 z4
        clear hb1 K1
        go_wp2
        go_ret
        exact ⟨rfl, B1.out⟩
      · have u1 : decide (10 ≤ le) = false := decide_eq_false l1
        clear g1
        go_enter Try.func71, Try.ntmps71
        go_wp2_with fail
        refine (implIsName na _ hw).mono ?_
        rw [H0.out]
        rintro e w1 ⟨rfl, hb1⟩
        have B1 := Lib.hid (B.out.trans (hb1.mono B.out.size))
        have K1 := K.out.below hb1
        have z1 := K1.cell 1
        have z2 := K1.cell 2
        have z3 := K1.cell 3
        have z4 := K1.cell 4
        simp at z1 z2 z3 z4
        clear hb1 K1
        go_wp2
        go_ret
        exact ⟨rfl, B1.out⟩
    | true =>
      have g1 : 10 ≤ le ∧ le ≤ 400 := by have := H1.out; unfold inB at this; exact of_decide_eq_true this
      obtain ⟨l1, u1⟩ := g1
      cases b2 with
      | false =>
        rw [show (true && true && false && b3 && b4) = false by simp]
        have g2 : ¬ (100 ≤ dr ∧ dr ≤ 2000) := by have := H2.out; unfold inB at this; exact of_decide_eq_false this
        by_cases l2 : 100 ≤ dr
        · have u2 : decide (dr ≤ 2000) = false := decide_eq_false (by omega)
          clear g2
          go_enter Try.func71, Try.ntmps71
          go_wp2_with fail
          refine (implIsName na _ hw).mono ?_
          rw [H0.out]
          rintro e w1 ⟨rfl, hb1⟩
          have B1 := Lib.hid (B.out.trans (hb1.mono B.out.size))
          have K1 := K.out.below hb1
          have z1 := K1.cell 1
          have z2 := K1.cell 2
          have z3 := K1.cell 3
          have z4 := K1.cell 4
          simp at z1 z2 z3 z4
          clear hb1 K1
          go_wp2
          go_ret
          exact ⟨rfl, B1.out⟩
        · have u2 : decide (100 ≤ dr) = false := decide_eq_false l2
          clear g2
          go_enter Try.func71, Try.ntmps71
          go_wp2_with fail
          refine (implIsName na _ hw).mono ?_
          rw [H0.out]
          rintro e w1 ⟨rfl, hb1⟩
          have B1 := Lib.hid (B.out.trans (hb1.mono B.out.size))
          have K1 := K.out.below hb1
          have z1 := K1.cell 1
          have z2 := K1.cell 2
          have z3 := K1.cell 3
          have z4 := K1.cell 4
          simp at z1 z2 z3 z4
          clear hb1 K1
          go_wp2
          go_ret
          exact ⟨rfl, B1.out⟩
      | true =>
        have g2 : 100 ≤ dr ∧ dr ≤ 2000 := by have := H2.out; unfold inB at this; exact of_decide_eq_true this
        obtain ⟨l2, u2⟩ := g2
        cases b3 with
        | false =>
          rw [show (true && true && true && false && b4) = false by simp]
          go_enter Try.func71, Try.ntmps71
          go_wp2_with fail
          refine (implIsName na _ hw).mono ?_
          rw [H0.out]
          rintro e w1 ⟨rfl, hb1⟩
          have B1 := Lib.hid (B.out.trans (hb1.mono B.out.size))
          have K1 := K.out.below hb1
          have z1 := K1.cell 1
          have z2 := K1.cell 2
          have z3 := K1.cell 3
          have z4 := K1.cell 4
          simp at z1 z2 z3 z4
          clear hb1 K1
          go_wp2_with fail
          refine (isIndex_any _ 4 _).mono ?_
          rw [show inB li 0 (((4 : Nat) : Int) - 1) = inB li 0 3 from rfl, H3.out]
          rintro e w4 ⟨rfl, rfl⟩
          go_wp2
          go_ret
          exact ⟨rfl, B1.out⟩
        | true =>
          cases b4 with
          | false =>
            rw [show (true && true && true && true && false) = false by simp]
            have g4 : ¬ (0 ≤ tu ∧ tu ≤ 4) := by have := H4.out; unfold inB at this; exact of_decide_eq_false this
            by_cases l4 : 0 ≤ tu
            · have u4 : decide (tu ≤ 4) = false := decide_eq_false (by omega)
              clear g4
              go_enter Try.func71, Try.ntmps71
              go_wp2_with fail
              refine (implIsName na _ hw).mono ?_
              rw [H0.out]
              rintro e w1 ⟨rfl, hb1⟩
              have B1 := Lib.hid (B.out.trans (hb1.mono B.out.size))
              have K1 := K.out.below hb1
              have z1 := K1.cell 1
              have z2 := K1.cell 2
              have z3 := K1.cell 3
              have z4 := K1.cell 4
              simp at z1 z2 z3 z4
              clear hb1 K1
              go_wp2_with fail
              refine (isIndex_any _ 4 _).mono ?_
              rw [show inB li 0 (((4 : Nat) : Int) - 1) = inB li 0 3 from rfl, H3.out]
              rintro e w4 ⟨rfl, rfl⟩
              go_wp2
              go_ret
              exact ⟨rfl, B1.out⟩
            · have u4 : decide (0 ≤ tu) = false := decide_eq_false l4
              clear g4
              go_enter Try.func71, Try.ntmps71
              go_wp2_with fail
              refine (implIsName na _ hw).mono ?_
              rw [H0.out]
              rintro e w1 ⟨rfl, hb1⟩
              have B1 := Lib.hid (B.out.trans (hb1.mono B.out.size))
              have K1 := K.out.below hb1
              have z1 := K1.cell 1
              have z2 := K1.cell 2
              have z3 := K1.cell 3
              have z4 := K1.cell 4
              simp at z1 z2 z3 z4
              clear hb1 K1
              go_wp2_with fail
              refine (isIndex_any _ 4 _).mono ?_
              rw [show inB li 0 (((4 : Nat) : Int) - 1) = inB li 0 3 from rfl, H3.out]
              rintro e w4 ⟨rfl, rfl⟩
              go_wp2
              go_ret
              exact ⟨rfl, B1.out⟩
          | true =>
            have g4 : 0 ≤ tu ∧ tu ≤ 4 := by have := H4.out; unfold inB at this; exact of_decide_eq_true this
            obtain ⟨l4, u4⟩ := g4
            rw [show (true && true && true && true && true) = true from rfl]
            go_enter Try.func71, Try.ntmps71
            go_wp2_with fail
            refine (implIsName na _ hw).mono ?_
            rw [H0.out]
            rintro e w1 ⟨rfl, hb1⟩
            have B1 := Lib.hid (B.out.trans (hb1.mono B.out.size))
            have K1 := K.out.below hb1
            have z1 := K1.cell 1
            have z2 := K1.cell 2
            have z3 := K1.cell 3
            have z4 := K1.cell 4
            simp at z1 z2 z3 z4
            clear hb1 K1
            go_wp2_with fail
            refine (isIndex_any _ 4 _).mono ?_
            rw [show inB li 0 (((4 : Nat) : Int) - 1) = inB li 0 3 from rfl, H3.out]
            rintro e w4 ⟨rfl, rfl⟩
            go_wp2
            go_ret
            exact ⟨rfl, B1.out⟩
end Go.Proofs.Ytlddampjbmklkaa
namespace Go.Proofs.Ytlddampjbmklkaa
open Go.RowKit
set_option maxRecDepth 100000
set_option maxHeartbeats 1000000 in
theorem specHas (v : Value) (l : List Int) (t : Int) (w : World) (h : SlInt w v l) :
    Calls Try.prog 63 #[v, .int .i64 t] w fun e w' => e = .returned (.bool (l.any (· == t))) ∧ w = w' := by
  obtain ⟨hl, h⟩ := h
  rcases h with ⟨rfl, A, c, rfl⟩ | ⟨g, o, c, rfl, hp, hcap, hc⟩
  · go_enter Try.func63, Try.ntmps63
    go_wp2
    refine wp_loop_rounds 1 ?_
    rw [rounds_succ]
    go_wp2
    go_ret
    exact ⟨rfl, rfl⟩
  · have HC := Lib.hid hc
    clear hc
    go_enter Try.func63, Try.ntmps63
    go_wp2
    go_loop [9] (fun i => ∃ k : Nat, k ≤ l.length ∧ i = .int .i64 k ∧ Hid (NoOne (· == t) l k)) (fun i => l.length - (intOf i).toNat)
    case atStart => exact ⟨0, Nat.zero_le _, rfl, Lib.hid (NoOne.zero _ _)⟩
    case round =>
      obtain ⟨k, hk, rfl, hN⟩ := hrel
      by_cases hlt : k < l.length
      · obtain ⟨x, hx⟩ : ∃ x, l[k]? = some x := ⟨_, List.getElem?_eq_getElem hlt⟩
        have q0 := SlInt.cells HC.out k x hx
        have HX := Lib.hid hx
        clear hx
        cases he : (x == t) with
        | true =>
          have E := Lib.hid (show l.any (· == t) = true from List.any_eq_true.2 ⟨x, List.mem_of_getElem? HX.out, he⟩)
          go_wp2
          go_ret
          exact ⟨ret_bool E.out.symm, rfl⟩
        | false =>
          have N2 := Lib.hid (hN.out.next HX.out he)
          go_wp2
          go_round
          case rel => exact ⟨k + 1, by omega, by go_num, N2⟩
          case measure => simp [intOf]; omega
      · obtain rfl : k = l.length := by omega
        have E := Lib.hid (show l.any (· == t) = false from List.any_eq_false.2 fun x hx => by
          obtain ⟨j, hj⟩ := List.getElem?_of_mem hx
          have h := hN.out j (List.getElem?_eq_some_iff.1 hj).1 x hj
          simpa using h)
        go_wp2
        go_ret
        exact ⟨ret_bool E.out.symm, rfl⟩
end Go.Proofs.Ytlddampjbmklkaa
namespace Go.Proofs.Ytlddampjbmklkaa
open Go.RowKit
set_option maxRecDepth 100000
set_option maxHeartbeats 1000000 in
theorem indexInt_any (v : Value) (l : List Int) (t : Int) (w : World) (h : SlInt w v l) :
    Calls Try.prog 75 #[v, .int .i64 t] w fun e w' => e = .returned (.int .i64 (firstI (fun x => t == x) l)) ∧ w = w' := by
  obtain ⟨hl, h⟩ := h
  rcases h with ⟨rfl, A, c, rfl⟩ | ⟨g, o, c, rfl, hp, hcap, hc⟩
  · go_enter Try.func75, Try.ntmps75
    go_wp2
    refine wp_loop_rounds 1 ?_
    rw [rounds_succ]
    go_wp2
    go_ret
    exact ⟨rfl, rfl⟩
  · have HC := Lib.hid hc
    clear hc
    go_enter Try.func75, Try.ntmps75
    go_wp2
    go_loop [8] (fun i => ∃ k : Nat, k ≤ l.length ∧ i = .int .i64 k ∧ Hid (NoOne (fun x => t == x) l k)) (fun i => l.length - (intOf i).toNat)
    case atStart => exact ⟨0, Nat.zero_le _, rfl, Lib.hid (NoOne.zero _ _)⟩
    case round =>
      obtain ⟨k, hk, rfl, hN⟩ := hrel
      by_cases hlt : k < l.length
      · obtain ⟨x, hx⟩ : ∃ x, l[k]? = some x := ⟨_, List.getElem?_eq_getElem hlt⟩
        have q0 := SlInt.cells HC.out k x hx
        have HX := Lib.hid hx
        clear hx
        cases he : (t == x) with
        | true =>
          have E := Lib.hid (firstI_at hN.out HX.out he)
          go_wp2
          go_ret
          exact ⟨ret_int E.out.symm, rfl⟩
        | false =>
          have N2 := Lib.hid (hN.out.next HX.out he)
          go_wp2
          go_round
          case rel => exact ⟨k + 1, by omega, by go_num, N2⟩
          case measure => simp [intOf]; omega
      · obtain rfl : k = l.length := by omega
        have E := Lib.hid (firstI_none hN.out)
        go_wp2
        go_ret
        exact ⟨ret_int E.out.symm, rfl⟩
theorem first_any (l : List Int) (t : Int) : decide (0 ≤ firstI (fun x => t == x) l) = l.any (· == t) := by
  unfold firstI
  cases h : l.findIdx? (fun x => t == x) with
  | none =>
    rw [List.findIdx?_eq_none_iff] at h
    rw [List.any_eq_false.2 (fun x hx => by have := h x hx; simp at this ⊢; exact fun e => this e.symm)]; rfl
  | some i =>
    rw [List.findIdx?_eq_some_iff_getElem] at h
    obtain ⟨hi, hj, _⟩ := h
    rw [List.any_eq_true.2 ⟨_, List.getElem_mem hi, by simp at hj ⊢; exact hj.symm⟩]
    exact decide_eq_true (show (0 : Int) ≤ (i : Int) by omega)
theorem contains_any (v : Value) (l : List Int) (t : Int) (w : World) (h : SlInt w v l) :
    Calls Try.prog 49 #[v, .int .i64 t] w fun e w' => e = .returned (.bool (l.any (· == t))) ∧ w = w' := by
  have HS := Lib.hid h
  have E := Lib.hid (first_any l t)
  obtain ⟨A, c, rfl⟩ := h.at
  clear h
  go_enter Try.func49, Try.ntmps49
  go_wp2_with fail
  refine (indexInt_any _ l t _ HS.out).mono ?_
  rintro e w2 ⟨rfl, rfl⟩
  go_wp2
  go_ret
  exact ⟨ret_bool E.out, rfl⟩
end Go.Proofs.Ytlddampjbmklkaa
namespace Go.Proofs.Ytlddampjbmklkaa
open Go.ChangeShapes Go.WideShapes Go.ChangeAt Go.Deep Go.RowKit
set_option maxRecDepth 100000
variable {H : Type} {enc : TypeId × Value → H} {w : World}
theorem open_ships_arg {r : Reach} {b0 : Nat} {v : Value} {d : DataW H} {ps : List MemPlace} (hval : Value.okWide Try.prog w r b0 44 v) (hd : DataW.Trod enc Try.prog w 0 (fun _ => true) true 44 v d ps) :
    ∃ A c l, v = .slice A l.length c ∧ l.length ≤ maxLen ∧ (l.length ≤ 1000000000 → SlShip w (.slice A l.length c) l) ∧ ∀ d ∈ l, ShipD.wf d := by
  obtain ⟨A, len, cap, rfl⟩ := okWide_slice Try.underlying44 hval
  obtain ⟨fuel, hf⟩ := hd
  exact open_ships hf
end Go.Proofs.Ytlddampjbmklkaa
