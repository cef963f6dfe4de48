
/- What ExactSailRoute and ExactFirstSail rests on, part 2: contracts and mathematics. -/
import Derived.Test.YtooeikimoheecaaGreatSf1
import Derived.Lib.SmallJoins
import Derived.Test.YtooeikimoheecaaGreatSf0
import Derived.StillTailTactics
namespace Go.Proofs.YtooeikimoheecaaGreat
open Go.RowKit
def ltI (r : Int) : Bool := decide (97 ≤ r ∧ r ≤ 122)
def nmIn (n lo hi : Int) : Bool := decide (lo ≤ n ∧ n ≤ hi)
def nmAt (k : Nat) (r : Int) : Bool := ltI r || (decide (k ≠ 0) && dgI r)
def preB : List UInt8 → Bool
  | [] => true
  | c :: t => ltI (c.toNat : Int) && t.all fun d => ltI (d.toNat : Int) || dgI (d.toNat : Int)
def nameB (s : ByteArray) : Bool := preB s.data.toList && decide (1 ≤ s.size ∧ s.size ≤ 8)
theorem ltI_false {r : Int} (h : r < 97 ∨ 122 < r) : ltI r = false := by
  unfold ltI; exact decide_eq_false (by omega)
theorem ltI_true {r : Int} (h : 97 ≤ r) (h' : r ≤ 122) : ltI r = true := by
  unfold ltI; exact decide_eq_true ⟨h, h'⟩
theorem preB_snoc (l : List UInt8) (c : UInt8) : preB (l ++ [c]) = (preB l && nmAt l.length (c.toNat : Int)) := by
  cases l with
  | nil => simp [preB, nmAt]
  | cons a t => simp [preB, nmAt, List.all_append, Bool.and_assoc]
theorem preB_append (l r : List UInt8) (h : preB l = false) : preB (l ++ r) = false := by
  cases l with
  | nil => simp [preB] at h
  | cons a t =>
    simp only [List.cons_append, preB, List.all_append, ← Bool.and_assoc] at h ⊢
    rw [h]; rfl
theorem take_len (s : ByteArray) (k : Nat) (h : k ≤ s.size) : (s.data.toList.take k).length = k := by
  rw [List.length_take]; have : s.data.toList.length = s.size := rfl; omega
theorem nm_step (s : ByteArray) (k : Nat) (h : k < s.size) (hp : preB (s.data.toList.take k) = true) : preB (s.data.toList.take (k + 1)) = nmAt k (s[k].toNat : Int) := by
  rw [take_snoc s k h, preB_snoc, hp, take_len s k (by omega), Bool.true_and]
theorem nm_not (s : ByteArray) (k : Nat) (h : k < s.size) (hp : nmAt k (s[k].toNat : Int) = false) : nameB s = false := by
  have h1 : preB (s.data.toList.take (k + 1)) = false := by
    rw [take_snoc s k h, preB_snoc, take_len s k (by omega), hp, Bool.and_false]
  have h2 := preB_append _ (s.data.toList.drop (k + 1)) h1
  rw [List.take_append_drop] at h2
  unfold nameB; rw [h2]; rfl
theorem nm_end (s : ByteArray) (k : Nat) (h : s.size ≤ k) (hp : preB (s.data.toList.take k) = true) : nameB s = decide (1 ≤ s.size ∧ s.size ≤ 8) := by
  rw [take_all s k h] at hp
  unfold nameB; rw [hp]; rfl
theorem nm_long (s : ByteArray) (h : 8 < s.size) : nameB s = false := by
  unfold nameB; rw [decide_eq_false (by omega), Bool.and_false]
theorem nm_none (s : ByteArray) (h : s.size = 0) : nameB s = false := by
  unfold nameB; rw [decide_eq_false (by omega), Bool.and_false]
theorem nmAt_letter (k : Nat) {r : Int} (h : 97 ≤ r) (h' : r ≤ 122) : nmAt k r = true := by
  unfold nmAt; rw [ltI_true h h']; rfl
theorem nmAt_zero {r : Int} (h : r < 97 ∨ 122 < r) : nmAt 0 r = false := by
  unfold nmAt; rw [ltI_false h]; rfl
theorem nmAt_digit {k : Nat} (hk : k ≠ 0) {r : Int} (h : 48 ≤ r) (h' : r ≤ 57) : nmAt k r = true := by
  unfold nmAt; rw [dgI_true h h', decide_eq_true hk]; simp
theorem nmAt_other (k : Nat) {r : Int} (h : r < 97 ∨ 122 < r) (h' : r < 48 ∨ 57 < r) : nmAt k r = false := by
  unfold nmAt; rw [ltI_false h, dgI_false h']; simp
theorem isLetter_any (r : Int) (w : World) :
    Calls Tryz.prog 130 #[.int .i32 r] w fun e w' => e = .returned (.bool (ltI r)) ∧ w = w' := by
  by_cases h1 : 97 ≤ r
  · by_cases h2 : r ≤ 122
    · have hn := Lib.hid (ltI_true h1 h2)
      go_enter Tryz.func130, Tryz.ntmps130
      go_wp2
      go_ret
      exact ⟨ret_bool hn.out.symm, rfl⟩
    · have hn := Lib.hid (ltI_false (.inr (by omega : 122 < r)))
      go_enter Tryz.func130, Tryz.ntmps130
      go_wp2
      go_ret
      exact ⟨ret_bool hn.out.symm, rfl⟩
  · have hn := Lib.hid (ltI_false (.inl (by omega : r < 97)))
    go_enter Tryz.func130, Tryz.ntmps130
    go_wp2
    go_ret
    exact ⟨ret_bool hn.out.symm, rfl⟩
theorem rune_nm (s : ByteArray) (pos : Nat) (h : pos < s.size) (hr : nmAt pos ((Utf8.decode s pos).1 : Int) = true) : nmAt pos (s[pos].toNat : Int) = true ∧ (Utf8.decode s pos).2 = 1 := by
  have hr' := hr
  have hlow : (Utf8.decode s pos).1 < 128 := by
    unfold nmAt ltI dgI at hr
    simp only [Bool.or_eq_true, Bool.and_eq_true, decide_eq_true_eq] at hr
    omega
  obtain ⟨e, e'⟩ := rune_low s pos h hlow
  rw [e]; exact ⟨hr', e'⟩
theorem rune_not_nm (s : ByteArray) (pos : Nat) (h : pos < s.size) (hr : nmAt pos ((Utf8.decode s pos).1 : Int) = false) : nmAt pos (s[pos].toNat : Int) = false := by
  by_cases ha : (s[pos]'h).toNat < 128
  · rw [decode_ascii s pos h ha] at hr; exact hr
  · exact nmAt_other pos (.inr (by omega)) (.inr (by omega))
set_option maxHeartbeats 1000000 in
theorem implIsName (s : ByteArray) (w : World) (hs : s.size ≤ maxLen) :
    Calls Tryz.prog 115 #[.string s] w fun e w' => e = .returned (.bool (nameB s)) ∧ Below w.heap.size w w' := by
  unfold maxLen at hs
  by_cases h0 : s.size = 0
  · have hn := Lib.hid (nm_none s h0)
    have he : s.toList = [] := by rw [ByteArray.toList_eq]; exact List.eq_nil_of_length_eq_zero h0
    clear h0
    go_enter Tryz.func115, Tryz.ntmps115
    go_wp2
    go_ret
    exact ⟨ret_bool hn.out.symm, Below.refl _ _⟩
  · have he : s.toList.isEmpty = false := by
      have h := notEmpty s
      rw [decide_eq_true (by omega)] at h
      simpa using h
    have he2 : (s.toList = []) = False := by
      cases h : s.toList with
      | nil => rw [h] at he; simp at he
      | cons a t => simp
    by_cases h8 : 8 < s.size
    · have hn := Lib.hid (nm_long s h8)
      go_enter Tryz.func115, Tryz.ntmps115
      go_wp2
      go_ret
      exact ⟨ret_bool hn.out.symm, Below.refl _ _⟩
    · go_enter Tryz.func115, Tryz.ntmps115
      go_wp2
      go_loopw [3, 4] (fun _ _ w' => ∃ pos : Nat, w' = w.iter s pos ∧ pos ≤ s.size ∧ Hid (preB (s.data.toList.take pos) = true)) (fun _ _ w' => s.size - w'.iterPos w.heap.size)
      case atStart => exact ⟨0, rfl, Nat.zero_le _, rfl⟩
      case round =>
        obtain ⟨pos, rfl, hk, hd⟩ := hrel
        by_cases hp : pos < s.size
        · have hnx : ∀ ty, (Instr.next (.pointer (some ⟨w.heap.size, 0, none⟩)) true ty).run Tryz.prog (w.iter s pos) = _ := fun ty => run_next_any w s pos ty hp
          cases hc : nmAt pos ((Utf8.decode s pos).1 : Int)
          · have hn := Lib.hid (nm_not s pos hp (rune_not_nm s pos hp hc))
            have hl : ltI ((Utf8.decode s pos).1 : Int) = false := by
              unfold nmAt at hc; exact (Bool.or_eq_false_iff.1 hc).1
            by_cases hz0 : pos = 0
            · have hz : ((pos : Int) == 0) = true := by simpa using hz0
              clear hc hz0
              go_wp2_with (go_at_call 130; refine (isLetter_any _ _).mono ?_; rintro e w' ⟨rfl, rfl⟩)
              go_ret
              exact ⟨ret_bool hn.out.symm, (Below.refl _ _).alloc (Nat.le_refl _) _⟩
            · have hz : ((pos : Int) == 0) = false := by simpa using hz0
              have hdg : dgI ((Utf8.decode s pos).1 : Int) = false := by
                unfold nmAt at hc
                have := (Bool.or_eq_false_iff.1 hc).2
                rw [decide_eq_true hz0] at this
                simpa using this
              clear hc hz0
              go_wp2_with (first
                | (go_at_call 130; refine (isLetter_any _ _).mono ?_; rintro e w' ⟨rfl, rfl⟩)
                | (go_at_call 131; refine (isDigit_any _ _).mono ?_; rintro e w' ⟨rfl, rfl⟩))
              go_ret
              exact ⟨ret_bool hn.out.symm, (Below.refl _ _).alloc (Nat.le_refl _) _⟩
          · have hw := Lib.hid (rune_nm s pos hp hc)
            have hy := Lib.hid ((nm_step s pos hp hd.out).trans hw.out.1)
            cases hl : ltI ((Utf8.decode s pos).1 : Int)
            · have hq := hc
              unfold nmAt at hq
              rw [hl] at hq
              simp only [Bool.false_or, Bool.and_eq_true, decide_eq_true_eq] at hq
              obtain ⟨hz0, hdg⟩ := hq
              have hz : ((pos : Int) == 0) = false := by simpa using hz0
              clear hc hz0
              go_wp2_with (first
                | (go_at_call 130; refine (isLetter_any _ _).mono ?_; rintro e w' ⟨rfl, rfl⟩)
                | (go_at_call 131; refine (isDigit_any _ _).mono ?_; rintro e w' ⟨rfl, rfl⟩))
              go_roundw
              case rel =>
                rw [hw.out.2]
                exact ⟨pos + 1, rfl, by omega, hy⟩
              case measure => have := hw.out.2; simp; omega
            · clear hc
              go_wp2_with (go_at_call 130; refine (isLetter_any _ _).mono ?_; rintro e w' ⟨rfl, rfl⟩)
              go_roundw
              case rel =>
                rw [hw.out.2]
                exact ⟨pos + 1, rfl, by omega, hy⟩
              case measure => have := hw.out.2; simp; omega
        · have hnx : ∀ ty, (Instr.next (.pointer (some ⟨w.heap.size, 0, none⟩)) true ty).run Tryz.prog (w.iter s pos) = _ := fun ty => run_next_end w s pos ty hp
          have hn := Lib.hid ((nm_end s pos (by omega) hd.out).trans (decide_eq_true (by omega)))
          go_wp2
          go_ret
          exact ⟨ret_bool hn.out.symm, (Below.refl _ _).alloc (Nat.le_refl _) _⟩
end Go.Proofs.YtooeikimoheecaaGreat
namespace Go.Proofs.YtooeikimoheecaaGreat
open Go.RowKit
/-- A part's numbers. -/
structure PartD where
  amp : Int
  per : Int
  pha : Int
@[reducible] def PartD.val (d : PartD) : Value := .agg #[.int .i64 d.amp, .int .i64 d.per, .int .i64 d.pha]
def partB (d : PartD) : Bool := decide (0 ≤ d.amp ∧ d.amp ≤ 1000 ∧ perB d.per = true ∧ 0 ≤ d.pha ∧ d.pha < d.per)
theorem partB_mk {d : PartD} (h : 0 ≤ d.amp ∧ d.amp ≤ 1000 ∧ perB d.per = true ∧ 0 ≤ d.pha ∧ d.pha < d.per) : partB d = true := decide_eq_true h
theorem partB_no {d : PartD} (h : ¬ (0 ≤ d.amp ∧ d.amp ≤ 1000 ∧ perB d.per = true ∧ 0 ≤ d.pha ∧ d.pha < d.per)) : partB d = false := decide_eq_false h
theorem partB_true {d : PartD} (h : partB d = true) : 0 ≤ d.amp ∧ d.amp ≤ 1000 ∧ perB d.per = true ∧ 0 ≤ d.pha ∧ d.pha < d.per := of_decide_eq_true h
theorem toPart_any (a p h : Int) (w : World) : Calls Tryz.prog 96 #[.agg #[.int .i64 a, .int .i64 p, .int .i64 h]] w fun e w' => e = .returned (.agg #[.int .i64 a, .int .i64 p, .int .i64 h]) ∧ Below w.heap.size w w' := by
  go_enter Tryz.func96, Tryz.ntmps96
  go_wp2
  refine bodyPost_ret (v := .agg #[.int .i64 a, .int .i64 p, .int .i64 h]) (by simp [results, Tryz.results96, go_sem]) rfl ⟨rfl, ?_⟩
  repeat (first | exact Below.refl _ _ | refine Below.setCell ?_ (by simp <;> omega) _ | refine Below.alloc ?_ (by simp <;> omega) _)
theorem eqPart_same (a p h : Int) (w : World) : Calls Tryz.prog 104 #[.agg #[.int .i64 a, .int .i64 p, .int .i64 h], .agg #[.int .i64 a, .int .i64 p, .int .i64 h]] w fun e w' => e = .returned (.bool true) ∧ Below w.heap.size w w' := by
  go_enter Tryz.func104, Tryz.ntmps104
  go_wp2
  go_ret
  exact ⟨rfl, Joins.below_alloc2 _ _ _⟩
def inB (x lo hi : Int) : Bool := decide (lo ≤ x ∧ x ≤ hi)
theorem inB_mk {x lo hi : Int} (h1 : lo ≤ x) (h2 : x ≤ hi) : inB x lo hi = true := decide_eq_true ⟨h1, h2⟩
theorem inB_no {x lo hi : Int} (h : x < lo ∨ hi < x) : inB x lo hi = false := decide_eq_false (by omega)
theorem l01In_any (x lo hi : Int) (w : World) : Calls Tryz.prog 63 #[.int .i64 x, .int .i64 lo, .int .i64 hi] w fun e w' => e = .returned (.bool (inB x lo hi)) ∧ w = w' := by
  by_cases h1 : lo ≤ x
  · by_cases h2 : x ≤ hi
    · have H := Lib.hid (inB_mk h1 h2)
      go_enter Tryz.func63, Tryz.ntmps63
      go_wp2
      go_ret
      exact ⟨ret_bool H.out.symm, rfl⟩
    · have H := Lib.hid (inB_no (x := x) (lo := lo) (hi := hi) (.inr (by omega)))
      have h3 : decide (x ≤ hi) = false := decide_eq_false h2
      go_enter Tryz.func63, Tryz.ntmps63
      go_wp2
      go_ret
      exact ⟨ret_bool H.out.symm, rfl⟩
  · have H := Lib.hid (inB_no (x := x) (lo := lo) (hi := hi) (.inl (by omega)))
    have h3 : decide (lo ≤ x) = false := decide_eq_false h1
    go_enter Tryz.func63, Tryz.ntmps63
    go_wp2
    go_ret
    exact ⟨ret_bool H.out.symm, rfl⟩
theorem implPartOk (d : PartD) (w : World) : Calls Tryz.prog 152 #[d.val] w fun e w' => e = .returned (.bool (partB d)) ∧ Below w.heap.size w w' := by
  obtain ⟨a, p, h⟩ := d
  by_cases h1 : 0 ≤ a
  · by_cases h2 : a ≤ 1000
    · cases hp : perB p with
      | false =>
        have H := Lib.hid (partB_no (d := ⟨a, p, h⟩) (by simp [hp]))
        have HP := Lib.hid hp
        clear hp
        go_enter Tryz.func152, Tryz.ntmps152
        go_wp2_with fail
        refine (isPeriod_any p _).mono ?_
        rintro e w1 ⟨rfl, rfl⟩
        rw [HP.out]
        go_wp2
        go_ret
        exact ⟨ret_bool H.out.symm, Joins.below_alloc1 _ _⟩
      | true =>
        by_cases h3 : 0 ≤ h
        · by_cases h4 : h < p
          · have H := Lib.hid (partB_mk (d := ⟨a, p, h⟩) ⟨h1, h2, hp, h3, h4⟩)
            have HP := Lib.hid hp
            clear hp
            go_enter Tryz.func152, Tryz.ntmps152
            go_wp2_with fail
            refine (isPeriod_any p _).mono ?_
            rintro e w1 ⟨rfl, rfl⟩
            rw [HP.out]
            go_wp2
            go_ret
            exact ⟨ret_bool H.out.symm, Joins.below_alloc1 _ _⟩
          · have H := Lib.hid (partB_no (d := ⟨a, p, h⟩) (by simp; omega))
            have h5 : decide (h < p) = false := decide_eq_false h4
            have HP := Lib.hid hp
            clear hp
            go_enter Tryz.func152, Tryz.ntmps152
            go_wp2_with fail
            refine (isPeriod_any p _).mono ?_
            rintro e w1 ⟨rfl, rfl⟩
            rw [HP.out]
            go_wp2
            go_ret
            exact ⟨ret_bool H.out.symm, Joins.below_alloc1 _ _⟩
        · have H := Lib.hid (partB_no (d := ⟨a, p, h⟩) (by simp; omega))
          have HP := Lib.hid hp
          clear hp
          go_enter Tryz.func152, Tryz.ntmps152
          go_wp2_with fail
          refine (isPeriod_any p _).mono ?_
          rintro e w1 ⟨rfl, rfl⟩
          rw [HP.out]
          go_wp2
          go_ret
          exact ⟨ret_bool H.out.symm, Joins.below_alloc1 _ _⟩
    · have H := Lib.hid (partB_no (d := ⟨a, p, h⟩) (by simp; omega))
      go_enter Tryz.func152, Tryz.ntmps152
      go_wp2
      go_ret
      exact ⟨ret_bool H.out.symm, Joins.below_alloc1 _ _⟩
  · have H := Lib.hid (partB_no (d := ⟨a, p, h⟩) (by simp; omega))
    go_enter Tryz.func152, Tryz.ntmps152
    go_wp2
    go_ret
    exact ⟨ret_bool H.out.symm, Joins.below_alloc1 _ _⟩
theorem specPartOk (d : PartD) (w : World) : Calls Tryz.prog 105 #[d.val] w fun e w' => e = .returned (.bool (partB d)) ∧ Below w.heap.size w w' := by
  obtain ⟨a, p, h⟩ := d
  by_cases h1 : 0 ≤ a ∧ a ≤ 1000
  · have E1 := Lib.hid (inB_mk h1.1 h1.2)
    by_cases h2 : 4 ≤ p ∧ p ≤ 2880
    · have E2 := Lib.hid (inB_mk h2.1 h2.2)
      obtain ⟨p0, p1⟩ := h2
      by_cases h3 : p % 4 = 0
      · have h4 : (p % 4 == 0) = true := by simpa using h3
        have HP := Lib.hid (perB_mk ⟨p0, p1, h3⟩)
        by_cases h5 : 0 ≤ h ∧ h < p
        · have H := Lib.hid (partB_mk (d := ⟨a, p, h⟩) ⟨h1.1, h1.2, HP.out, h5.1, h5.2⟩)
          have E5 := Lib.hid (inB_mk (x := h) (lo := 0) (hi := p - 1) h5.1 (by omega))
          clear h1 h3 h5
          go_enter Tryz.func105, Tryz.ntmps105
          go_wp2_with fail
          refine (l01In_any _ _ _ _).mono ?_
          rintro e w1 ⟨rfl, rfl⟩
          rw [E1.out]
          go_wp2_with fail
          refine (l01In_any _ _ _ _).mono ?_
          rintro e w1 ⟨rfl, rfl⟩
          rw [E2.out]
          go_wp2_with fail
          refine (l01In_any _ _ _ _).mono ?_
          rintro e w1 ⟨rfl, rfl⟩
          rw [E5.out]
          go_wp2
          go_ret
          exact ⟨ret_bool H.out.symm, Joins.below_alloc1 _ _⟩
        · have H := Lib.hid (partB_no (d := ⟨a, p, h⟩) (by simp; omega))
          have E5 := Lib.hid (inB_no (x := h) (lo := 0) (hi := p - 1) (by omega))
          clear h1 h3 h5
          go_enter Tryz.func105, Tryz.ntmps105
          go_wp2_with fail
          refine (l01In_any _ _ _ _).mono ?_
          rintro e w1 ⟨rfl, rfl⟩
          rw [E1.out]
          go_wp2_with fail
          refine (l01In_any _ _ _ _).mono ?_
          rintro e w1 ⟨rfl, rfl⟩
          rw [E2.out]
          go_wp2_with fail
          refine (l01In_any _ _ _ _).mono ?_
          rintro e w1 ⟨rfl, rfl⟩
          rw [E5.out]
          go_wp2
          go_ret
          exact ⟨ret_bool H.out.symm, Joins.below_alloc1 _ _⟩
      · have h4 : (p % 4 == 0) = false := by simpa using h3
        have HP := perB_no (p := p) (by omega)
        have H := Lib.hid (partB_no (d := ⟨a, p, h⟩) (by simp [HP]))
        clear h1 h3 HP
        go_enter Tryz.func105, Tryz.ntmps105
        go_wp2_with fail
        refine (l01In_any _ _ _ _).mono ?_
        rintro e w1 ⟨rfl, rfl⟩
        rw [E1.out]
        go_wp2_with fail
        refine (l01In_any _ _ _ _).mono ?_
        rintro e w1 ⟨rfl, rfl⟩
        rw [E2.out]
        go_wp2
        go_ret
        exact ⟨ret_bool H.out.symm, Joins.below_alloc1 _ _⟩
    · have HP := perB_no (p := p) (by omega)
      have H := Lib.hid (partB_no (d := ⟨a, p, h⟩) (by simp [HP]))
      have E2 := Lib.hid (inB_no (x := p) (lo := 4) (hi := 2880) (by omega))
      clear h1 h2 HP
      go_enter Tryz.func105, Tryz.ntmps105
      go_wp2_with fail
      refine (l01In_any _ _ _ _).mono ?_
      rintro e w1 ⟨rfl, rfl⟩
      rw [E1.out]
      go_wp2_with fail
      refine (l01In_any _ _ _ _).mono ?_
      rintro e w1 ⟨rfl, rfl⟩
      rw [E2.out]
      go_wp2
      go_ret
      exact ⟨ret_bool H.out.symm, Joins.below_alloc1 _ _⟩
  · have E1 := Lib.hid (inB_no (x := a) (lo := 0) (hi := 1000) (by omega))
    have H := Lib.hid (partB_no (d := ⟨a, p, h⟩) (by simp; omega))
    clear h1
    go_enter Tryz.func105, Tryz.ntmps105
    go_wp2_with fail
    refine (l01In_any _ _ _ _).mono ?_
    rintro e w1 ⟨rfl, rfl⟩
    rw [E1.out]
    go_wp2
    go_ret
    exact ⟨ret_bool H.out.symm, Joins.below_alloc1 _ _⟩
end Go.Proofs.YtooeikimoheecaaGreat
namespace Go.Proofs.YtooeikimoheecaaGreat
open Go.ChangeShapes Go.WideShapes Go.ChangeAt Go.Deep Go.RowKit
set_option maxRecDepth 100000
structure WindowD where
  fr : Int
  tt : Int
@[reducible] def WindowD.val (d : WindowD) : Value := .agg #[.int .i64 d.fr, .int .i64 d.tt]
@[reducible] def WindowD.cells (d : WindowD) : List Value := [.int .i64 d.fr, .int .i64 d.tt]
theorem windowLen (d : WindowD) : d.cells.length = 2 := rfl
def SlWindow : World → Value → List WindowD → Prop := SlOf 2 WindowD.cells
def OwnWindow : World → Nat → Value → List WindowD → Prop := OwnOf 2 WindowD.cells 145
def NewWindow : List WindowD → World → Ending → World → Prop := NewOf 2 WindowD.cells 145
theorem SlWindow.at {w : World} {v : Value} {l : List WindowD} (h : SlWindow w v l) : ∃ A c, v = .slice A l.length c := SlOf.form h
theorem SlWindow.below {w w' : World} {v : Value} {l : List WindowD} (h : SlWindow w v l) (hb : Below w.heap.size w w') : SlWindow w' v l := SlOf.below h hb
theorem OwnWindow.sl {w : World} {base : Nat} {v : Value} {l : List WindowD} (h : OwnWindow w base v l) (hl : l.length ≤ 1000000000) : SlWindow w v l := own_sl windowLen h hl
theorem SlWindow.cells {w : World} {l : List WindowD} {g o : Nat} (hc : ∀ i x, l[i]? = some x → ∀ j u, (WindowD.cells x)[j]? = some u → w.cell? ⟨g, o + i * 2 + j, none⟩ = some u) (i : Nat) (x : WindowD) (hx : l[i]? = some x) :
    w.cell? ⟨g, o + i * 2, none⟩ = some (.int .i64 x.fr) ∧ w.cell? ⟨g, o + i * 2 + 1, none⟩ = some (.int .i64 x.tt) :=
  ⟨hc i x hx 0 _ rfl, hc i x hx 1 _ rfl⟩
theorem info_window : (Tryz.prog.info? 145).map (fun i => (i.zero, i.size, i.bytes)) = some (some (.agg #[.int .i64 0, .int .i64 0]), 2, 16) := by kernel_rfl
section
variable {H : Type} {enc : TypeId × Value → H} {w : World} {base : Nat} {spare : Nat → Bool} {held : Bool}
def WindowD.wf (d : WindowD) : Prop := (Lit.int .i64 d.fr).wf = true ∧ (Lit.int .i64 d.tt).wf = true
end
end Go.Proofs.YtooeikimoheecaaGreat
