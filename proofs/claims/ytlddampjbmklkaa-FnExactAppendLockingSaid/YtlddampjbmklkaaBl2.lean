
/- What ExactLockPlanOk and ExactAppendLocking rests on, part 2: contracts and mathematics. -/
import Derived.Test.YtlddampjbmklkaaBl1
import Derived.Test.YtlddampjbmklkaaBl0
import Derived.OwnWalkIn
import Derived.Laws.AppendOwn
import Derived.RangeFuncNested
import Derived.StillTailTactics
import Derived.BigQuiet
namespace Go.Proofs.Ytlddampjbmklkaa
open Go.RowKit
set_option maxRecDepth 100000
theorem grown_set1 (w : World) (b j : Nat) (u : Value) : w.grownBy (w.setCell ⟨b, j, none⟩ u) (some b) :=
  ⟨rfl, rfl, rfl, by simp [World.setCell], fun i _ hne => Below.heap_setCell w ⟨b, j, none⟩ u i (fun e => hne (by rw [e]))⟩
end Go.Proofs.Ytlddampjbmklkaa
namespace Go.Proofs.Ytlddampjbmklkaa
open Go.RowKit
def ltI (r : Int) : Bool := decide (97 ≤ r ∧ r ≤ 122)
def nmIn (n lo hi : Int) : Bool := decide (lo ≤ n ∧ n ≤ hi)
def nmAt (k : Nat) (r : Int) : Bool := ltI r || (decide (k ≠ 0) && dgI r)
def preB : List UInt8 → Bool
  | [] => true
  | c :: t => ltI (c.toNat : Int) && t.all fun d => ltI (d.toNat : Int) || dgI (d.toNat : Int)
def nameB (s : ByteArray) : Bool := preB s.data.toList && decide (1 ≤ s.size ∧ s.size ≤ 8)
theorem ltI_false {r : Int} (h : r < 97 ∨ 122 < r) : ltI r = false := by
  unfold ltI; exact decide_eq_false (by omega)
theorem ltI_true {r : Int} (h : 97 ≤ r) (h' : r ≤ 122) : ltI r = true := by
  unfold ltI; exact decide_eq_true ⟨h, h'⟩
theorem preB_snoc (l : List UInt8) (c : UInt8) : preB (l ++ [c]) = (preB l && nmAt l.length (c.toNat : Int)) := by
  cases l with
  | nil => simp [preB, nmAt]
  | cons a t => simp [preB, nmAt, List.all_append, Bool.and_assoc]
theorem preB_append (l r : List UInt8) (h : preB l = false) : preB (l ++ r) = false := by
  cases l with
  | nil => simp [preB] at h
  | cons a t =>
    simp only [List.cons_append, preB, List.all_append, ← Bool.and_assoc] at h ⊢
    rw [h]; rfl
theorem take_len (s : ByteArray) (k : Nat) (h : k ≤ s.size) : (s.data.toList.take k).length = k := by
  rw [List.length_take]; have : s.data.toList.length = s.size := rfl; omega
theorem nm_step (s : ByteArray) (k : Nat) (h : k < s.size) (hp : preB (s.data.toList.take k) = true) : preB (s.data.toList.take (k + 1)) = nmAt k (s[k].toNat : Int) := by
  rw [take_snoc s k h, preB_snoc, hp, take_len s k (by omega), Bool.true_and]
theorem nm_not (s : ByteArray) (k : Nat) (h : k < s.size) (hp : nmAt k (s[k].toNat : Int) = false) : nameB s = false := by
  have h1 : preB (s.data.toList.take (k + 1)) = false := by
    rw [take_snoc s k h, preB_snoc, take_len s k (by omega), hp, Bool.and_false]
  have h2 := preB_append _ (s.data.toList.drop (k + 1)) h1
  rw [List.take_append_drop] at h2
  unfold nameB; rw [h2]; rfl
theorem nm_end (s : ByteArray) (k : Nat) (h : s.size ≤ k) (hp : preB (s.data.toList.take k) = true) : nameB s = decide (1 ≤ s.size ∧ s.size ≤ 8) := by
  rw [take_all s k h] at hp
  unfold nameB; rw [hp]; rfl
theorem nm_long (s : ByteArray) (h : 8 < s.size) : nameB s = false := by
  unfold nameB; rw [decide_eq_false (by omega), Bool.and_false]
theorem nm_none (s : ByteArray) (h : s.size = 0) : nameB s = false := by
  unfold nameB; rw [decide_eq_false (by omega), Bool.and_false]
theorem nmAt_letter (k : Nat) {r : Int} (h : 97 ≤ r) (h' : r ≤ 122) : nmAt k r = true := by
  unfold nmAt; rw [ltI_true h h']; rfl
theorem nmAt_zero {r : Int} (h : r < 97 ∨ 122 < r) : nmAt 0 r = false := by
  unfold nmAt; rw [ltI_false h]; rfl
theorem nmAt_digit {k : Nat} (hk : k ≠ 0) {r : Int} (h : 48 ≤ r) (h' : r ≤ 57) : nmAt k r = true := by
  unfold nmAt; rw [dgI_true h h', decide_eq_true hk]; simp
theorem nmAt_other (k : Nat) {r : Int} (h : r < 97 ∨ 122 < r) (h' : r < 48 ∨ 57 < r) : nmAt k r = false := by
  unfold nmAt; rw [ltI_false h, dgI_false h']; simp
theorem isLetter_any (r : Int) (w : World) :
    Calls Try.prog 89 #[.int .i32 r] w fun e w' => e = .returned (.bool (ltI r)) ∧ w = w' := by
  by_cases h1 : 97 ≤ r
  · by_cases h2 : r ≤ 122
    · have hn := Lib.hid (ltI_true h1 h2)
      go_enter Try.func89, Try.ntmps89
      go_wp2
      go_ret
      exact ⟨ret_bool hn.out.symm, rfl⟩
    · have hn := Lib.hid (ltI_false (.inr (by omega : 122 < r)))
      go_enter Try.func89, Try.ntmps89
      go_wp2
      go_ret
      exact ⟨ret_bool hn.out.symm, rfl⟩
  · have hn := Lib.hid (ltI_false (.inl (by omega : r < 97)))
    go_enter Try.func89, Try.ntmps89
    go_wp2
    go_ret
    exact ⟨ret_bool hn.out.symm, rfl⟩
theorem rune_nm (s : ByteArray) (pos : Nat) (h : pos < s.size) (hr : nmAt pos ((Utf8.decode s pos).1 : Int) = true) : nmAt pos (s[pos].toNat : Int) = true ∧ (Utf8.decode s pos).2 = 1 := by
  have hr' := hr
  have hlow : (Utf8.decode s pos).1 < 128 := by
    unfold nmAt ltI dgI at hr
    simp only [Bool.or_eq_true, Bool.and_eq_true, decide_eq_true_eq] at hr
    omega
  obtain ⟨e, e'⟩ := rune_low s pos h hlow
  rw [e]; exact ⟨hr', e'⟩
theorem rune_not_nm (s : ByteArray) (pos : Nat) (h : pos < s.size) (hr : nmAt pos ((Utf8.decode s pos).1 : Int) = false) : nmAt pos (s[pos].toNat : Int) = false := by
  by_cases ha : (s[pos]'h).toNat < 128
  · rw [decode_ascii s pos h ha] at hr; exact hr
  · exact nmAt_other pos (.inr (by omega)) (.inr (by omega))
set_option maxHeartbeats 1000000 in
theorem implIsName (s : ByteArray) (w : World) (hs : s.size ≤ maxLen) :
    Calls Try.prog 82 #[.string s] w fun e w' => e = .returned (.bool (nameB s)) ∧ Below w.heap.size w w' := by
  unfold maxLen at hs
  by_cases h0 : s.size = 0
  · have hn := Lib.hid (nm_none s h0)
    have he : s.toList = [] := by rw [ByteArray.toList_eq]; exact List.eq_nil_of_length_eq_zero h0
    clear h0
    go_enter Try.func82, Try.ntmps82
    go_wp2
    go_ret
    exact ⟨ret_bool hn.out.symm, Below.refl _ _⟩
  · have he : s.toList.isEmpty = false := by
      have h := notEmpty s
      rw [decide_eq_true (by omega)] at h
      simpa using h
    have he2 : (s.toList = []) = False := by
      cases h : s.toList with
      | nil => rw [h] at he; simp at he
      | cons a t => simp
    by_cases h8 : 8 < s.size
    · have hn := Lib.hid (nm_long s h8)
      go_enter Try.func82, Try.ntmps82
      go_wp2
      go_ret
      exact ⟨ret_bool hn.out.symm, Below.refl _ _⟩
    · go_enter Try.func82, Try.ntmps82
      go_wp2
      go_loopw [3, 4] (fun _ _ w' => ∃ pos : Nat, w' = w.iter s pos ∧ pos ≤ s.size ∧ Hid (preB (s.data.toList.take pos) = true)) (fun _ _ w' => s.size - w'.iterPos w.heap.size)
      case atStart => exact ⟨0, rfl, Nat.zero_le _, rfl⟩
      case round =>
        obtain ⟨pos, rfl, hk, hd⟩ := hrel
        by_cases hp : pos < s.size
        · have hnx : ∀ ty, (Instr.next (.pointer (some ⟨w.heap.size, 0, none⟩)) true ty).run Try.prog (w.iter s pos) = _ := fun ty => run_next_any w s pos ty hp
          cases hc : nmAt pos ((Utf8.decode s pos).1 : Int)
          · have hn := Lib.hid (nm_not s pos hp (rune_not_nm s pos hp hc))
            have hl : ltI ((Utf8.decode s pos).1 : Int) = false := by
              unfold nmAt at hc; exact (Bool.or_eq_false_iff.1 hc).1
            by_cases hz0 : pos = 0
            · have hz : ((pos : Int) == 0) = true := by simpa using hz0
              clear hc hz0
              go_wp2_with (go_at_call 89; refine (isLetter_any _ _).mono ?_; rintro e w' ⟨rfl, rfl⟩)
              go_ret
              exact ⟨ret_bool hn.out.symm, (Below.refl _ _).alloc (Nat.le_refl _) _⟩
            · have hz : ((pos : Int) == 0) = false := by simpa using hz0
              have hdg : dgI ((Utf8.decode s pos).1 : Int) = false := by
                unfold nmAt at hc
                have := (Bool.or_eq_false_iff.1 hc).2
                rw [decide_eq_true hz0] at this
                simpa using this
              clear hc hz0
              go_wp2_with (first
                | (go_at_call 89; refine (isLetter_any _ _).mono ?_; rintro e w' ⟨rfl, rfl⟩)
                | (go_at_call 90; refine (isDigit_any _ _).mono ?_; rintro e w' ⟨rfl, rfl⟩))
              go_ret
              exact ⟨ret_bool hn.out.symm, (Below.refl _ _).alloc (Nat.le_refl _) _⟩
          · have hw := Lib.hid (rune_nm s pos hp hc)
            have hy := Lib.hid ((nm_step s pos hp hd.out).trans hw.out.1)
            cases hl : ltI ((Utf8.decode s pos).1 : Int)
            · have hq := hc
              unfold nmAt at hq
              rw [hl] at hq
              simp only [Bool.false_or, Bool.and_eq_true, decide_eq_true_eq] at hq
              obtain ⟨hz0, hdg⟩ := hq
              have hz : ((pos : Int) == 0) = false := by simpa using hz0
              clear hc hz0
              go_wp2_with (first
                | (go_at_call 89; refine (isLetter_any _ _).mono ?_; rintro e w' ⟨rfl, rfl⟩)
                | (go_at_call 90; refine (isDigit_any _ _).mono ?_; rintro e w' ⟨rfl, rfl⟩))
              go_roundw
              case rel =>
                rw [hw.out.2]
                exact ⟨pos + 1, rfl, by omega, hy⟩
              case measure => have := hw.out.2; simp; omega
            · clear hc
              go_wp2_with (go_at_call 89; refine (isLetter_any _ _).mono ?_; rintro e w' ⟨rfl, rfl⟩)
              go_roundw
              case rel =>
                rw [hw.out.2]
                exact ⟨pos + 1, rfl, by omega, hy⟩
              case measure => have := hw.out.2; simp; omega
        · have hnx : ∀ ty, (Instr.next (.pointer (some ⟨w.heap.size, 0, none⟩)) true ty).run Try.prog (w.iter s pos) = _ := fun ty => run_next_end w s pos ty hp
          have hn := Lib.hid ((nm_end s pos (by omega) hd.out).trans (decide_eq_true (by omega)))
          go_wp2
          go_ret
          exact ⟨ret_bool hn.out.symm, (Below.refl _ _).alloc (Nat.le_refl _) _⟩
end Go.Proofs.Ytlddampjbmklkaa
namespace Go.Proofs.Ytlddampjbmklkaa
open Go.RowKit
set_option maxRecDepth 100000
theorem isIndex_any (i : Int) (n : Nat) (w : World) : Calls Try.prog 73 #[.int .i64 i, .int .i64 (n : Int)] w fun e w' => e = .returned (.bool (inB i 0 ((n : Int) - 1))) ∧ w = w' := by
  by_cases h1 : 0 ≤ i
  · by_cases h2 : i < (n : Int)
    · have H := Lib.hid (inB_mk h1 (show i ≤ (n : Int) - 1 by omega))
      go_enter Try.func73, Try.ntmps73
      go_wp2
      go_ret
      exact ⟨ret_bool H.out.symm, rfl⟩
    · have H := Lib.hid (inB_no (x := i) (lo := 0) (hi := (n : Int) - 1) (.inr (by omega)))
      have h3 : decide (i < (n : Int)) = false := decide_eq_false h2
      go_enter Try.func73, Try.ntmps73
      go_wp2
      go_ret
      exact ⟨ret_bool H.out.symm, rfl⟩
  · have H := Lib.hid (inB_no (x := i) (lo := 0) (hi := (n : Int) - 1) (.inl (by omega)))
    have h3 : decide (0 ≤ i) = false := decide_eq_false h1
    go_enter Try.func73, Try.ntmps73
    go_wp2
    go_ret
    exact ⟨ret_bool H.out.symm, rfl⟩
end Go.Proofs.Ytlddampjbmklkaa
namespace Go.Proofs.Ytlddampjbmklkaa
open Go.RowKit
theorem run_append_own_full {P : Program} (w : World) (base : Nat) (t ty e : TypeId) (i : TypeInfo) (z : Value) (size bytes : Nat) (ht : P.underlying t = some (.slice e)) (hi : P.info? e = some i) (hz : i.zero = some z)
    (hsize : i.size = size) (hby : i.bytes = bytes) (hzs : z.cells.size = size) (hsz : 0 < size)
    (v : Value) (n : Nat) (xs : List Value) (hown : w.ownsRow base e size v n xs)
    (a : Addr) (m c : Nat) (news : List Value) (hl : news.length = m * size) (hnews : ∀ j u, news[j]? = some u → w.cell? (a.add j) = some u) (h1 : ∀ u ∈ news, u.oneCell' = true)
    (h63 : n + m ≤ maxLen) (hbytes : (n + m) * bytes ≤ 140737488355328) (hbase : base ≤ w.heap.size) :
    ∃ v' w', (Builtin.append_ #[t, t] ty #[v, .slice (some a) m c]).run P w = .ok v' w' ∧ w'.ownsRow base e size v' (n + m) (xs ++ news) ∧ w.grownBy w' v.ownBlock ∧
      (v' = .slice none 0 0 ↔ v = .slice none 0 0 ∧ m = 0) ∧ ∀ g cap, v = .slice (some ⟨g, 0, none⟩) n cap → cap < n + m → w.grownBy w' none := by
  obtain ⟨v', w', hr, h2, h3, h4⟩ := run_append_own (P := P) w base t ty e i z size bytes ht hi hz hsize hby hzs hsz v n xs hown a m c news hl hnews h1 h63 hbytes hbase
  refine ⟨v', w', hr, h2, h3, h4, ?_⟩
  intro g cap ev hlt
  subst ev
  subst hsize
  subst hby
  have hsmall : n + m ≤ 9223372036854775807 := by simp only [maxLen] at h63; omega
  have hr2 := run_append_grow (P := P) w t ty e i z ht hi hz ⟨g, 0, none⟩ n cap xs hown.1 (hown.cells (g := g) rfl) a m c news hl hnews hlt (by omega) (growslice_fits (by omega) hbytes)
  rw [hr] at hr2
  injection hr2 with e1 e2
  subst e2
  exact ⟨rfl, rfl, rfl, by simp, fun k hk _ => heap_alloc_old w.drew _ hk⟩
end Go.Proofs.Ytlddampjbmklkaa
namespace Go.Proofs.Ytlddampjbmklkaa
open Go.RowKit
set_option maxRecDepth 100000
theorem isMinute_any (t : Int) (w : World) : Calls Try.prog 43 #[.int .i64 t] w fun e w' => e = .returned (.bool (inB t 0 2880)) ∧ w = w' := by
  by_cases h1 : 0 ≤ t
  · by_cases h2 : t ≤ 2880
    · have H := Lib.hid (inB_mk h1 h2)
      go_enter Try.func43, Try.ntmps43
      go_wp2
      go_ret
      exact ⟨ret_bool H.out.symm, rfl⟩
    · have H := Lib.hid (inB_no (x := t) (lo := 0) (hi := 2880) (.inr (by omega)))
      have h3 : decide (t ≤ 2880) = false := decide_eq_false h2
      go_enter Try.func43, Try.ntmps43
      go_wp2
      go_ret
      exact ⟨ret_bool H.out.symm, rfl⟩
  · have H := Lib.hid (inB_no (x := t) (lo := 0) (hi := 2880) (.inl (by omega)))
    have h3 : decide (0 ≤ t) = false := decide_eq_false h1
    go_enter Try.func43, Try.ntmps43
    go_wp2
    go_ret
    exact ⟨ret_bool H.out.symm, rfl⟩
end Go.Proofs.Ytlddampjbmklkaa
namespace Go.Proofs.Ytlddampjbmklkaa
open Go.ChangeShapes Go.WideShapes Go.ChangeAt Go.Deep Go.RowKit
set_option maxRecDepth 100000
abbrev IntD := Int
def IntD.cells (x : IntD) : List Value := [.int .i64 x]
def intCells : Int → List Value := fun x => [.int .i64 x]
theorem intLen (x : Int) : (intCells x).length = 1 := rfl
theorem int_one (x : Int) : ∀ v ∈ intCells x, v.oneCell' = true := fun v hv => by simp [intCells] at hv; rw [hv]; rfl
def SlInt : World → Value → List Int → Prop := SlOf 1 intCells
def OwnInt : World → Nat → Value → List Int → Prop := OwnOf 1 intCells 3
def NewInt : List Int → World → Ending → World → Prop := NewOf 1 intCells 3
theorem SlInt.at {w : World} {v : Value} {l : List Int} (h : SlInt w v l) : ∃ A c, v = .slice A l.length c := SlOf.form h
theorem SlInt.below {w w' : World} {v : Value} {l : List Int} (h : SlInt w v l) (hb : Below w.heap.size w w') : SlInt w' v l := SlOf.below h hb
theorem OwnInt.sl {w : World} {base : Nat} {v : Value} {l : List Int} (h : OwnInt w base v l) (hl : l.length ≤ 1000000000) : SlInt w v l := own_sl intLen h hl
theorem SlInt.cells {w : World} {l : List Int} {g o : Nat} (hc : ∀ i x, l[i]? = some x → ∀ j u, (intCells x)[j]? = some u → w.cell? ⟨g, o + i * 1 + j, none⟩ = some u) (i : Nat) (x : Int) (hx : l[i]? = some x) :
    w.cell? ⟨g, o + i, none⟩ = some (.int .i64 x) := by
  have h := hc i x hx 0 _ rfl
  simpa using h
def zeroInt : List Value := [.int .i64 0]
theorem info_int : (Try.prog.info? 3).map (fun i => (i.zero, i.size, i.bytes)) = some (some (.int .i64 0), 1, 8) := by kernel_rfl
theorem info1_int : ∃ i0, Try.prog.info? 3 = some i0 ∧ i0.zero = some (.int .i64 0) ∧ i0.size = 1 ∧ i0.bytes = 8 := by
  have h := info_int
  cases hi : Try.prog.info? 3 with
  | none => rw [hi] at h; simp at h
  | some i0 => rw [hi] at h; simp at h; exact ⟨i0, rfl, h.1, h.2.1, h.2.2⟩
theorem make_ints (n : Nat) (hn : n ≤ 1000000000) (W : World) :
    (Instr.makeSlice 33 (.int .i64 (n : Int)) (.int .i64 (n : Int))).run Try.prog W = .ok (.slice (some ⟨W.heap.size, 0, none⟩) n n) (W.alloc (.cells (madeCells #[.int .i64 0] (n * 1)) 3)) := by
  obtain ⟨i0, hi, hz0, hz1, hz2⟩ := info1_int
  have hr := run_make (P := Try.prog) W 33 3 i0 _ Try.underlying33 hi hz0 .i64 .i64 n n (by omega) (Int.le_refl _) (by rw [hz2]; omega) (by omega)
  simp only [Int.toNat_natCast, hz1] at hr
  exact hr
set_option maxHeartbeats 1000000 in
theorem toIntS_any (v : Value) (l : List Int) (w : World) (h : SlInt w v l) :
    Calls Try.prog 34 #[v] w (NewInt l w) := by
  obtain ⟨hl, h⟩ := h
  have hmk := make_ints l.length hl
  rcases h with ⟨rfl, A, c, rfl⟩ | ⟨g, o, c, rfl, hp, hcap, hc⟩
  · have hmk0 : ∀ W : World, (Instr.makeSlice 33 (.int .i64 0) (.int .i64 0)).run Try.prog W = .ok (.slice (some ⟨W.heap.size, 0, none⟩) 0 0) (W.alloc (.cells (madeCells #[.int .i64 0] (0 * 1)) 3)) := make_ints 0 (by omega)
    clear hmk
    go_enter Try.func34, Try.ntmps34
    go_wp2
    refine wp_loop_rounds 1 ?_
    rw [rounds_succ]
    go_wp2
    go_ret
    have h := World.ownsRow_lit (base := w.heap.size) (e := 3) (size := 1) w (madeCells #[.int .i64 0] (0 * 1)) 0 (Nat.le_refl _) (by decide) (by rw [size_madeCells])
    rw [show (madeCells #[Value.int .i64 0] (0 * 1)).toList = [] by simp [madeCells]] at h
    exact ⟨_, rfl, h, (Below.refl _ _).alloc (Nat.le_refl _) _⟩
  · have HC := Lib.hid hc
    clear hc
    go_enter Try.func34, Try.ntmps34
    go_wp2
    clear hmk
    go_loopw [4] (fun i wr => ∃ k : Nat, k ≤ l.length ∧ i = .int .i64 k ∧ Hid (wr.ownsRow w.heap.size 3 1 (.slice (some ⟨w.heap.size, 0, none⟩) l.length l.length) l.length (halfOf intCells zeroInt l k)) ∧ Below w.heap.size w wr) (fun i _ => l.length - (intOf i).toNat)
    case atStart =>
      refine ⟨0, Nat.zero_le _, rfl, ?_, (Below.refl _ _).alloc (Nat.le_refl _) _⟩
      have h := World.ownsRow_lit (base := w.heap.size) (e := 3) (size := 1) w (madeCells #[.int .i64 0] (l.length * 1)) l.length (Nat.le_refl _) (by unfold maxLen; omega) (by rw [size_madeCells])
      have e := made_flat #[.int .i64 0] l.length
      rw [half_none]
      have e' : (madeCells #[Value.int .i64 0] (l.length * 1)).toList = (List.replicate l.length zeroInt).flatten := e
      rw [e'] at h
      rw [Nat.mul_one] at h
      exact Lib.hid h
    case round =>
      obtain ⟨k, hk, rfl, hown, hb⟩ := hrel
      by_cases hlt : k < l.length
      · obtain ⟨x, hx⟩ : ∃ x, l[k]? = some x := ⟨_, List.getElem?_eq_getElem hlt⟩
        have q0 := SlInt.cells HC.out k x hx
        have hlt2 : g < w.heap.size := World.block_lt_of_cell? w ⟨g, o + k, none⟩ q0
        have c0 := (hb.cell (p := ⟨g, o + k, none⟩) hlt2).trans q0
        have Hx := Lib.hid hx
        clear q0 hx
        have s0 : wr.cell? ⟨w.heap.size, k, none⟩ = some (.int .i64 0) := by
          have h := (World.ownsRow.cellAt hown.out (k * 1 + 0) (by omega)).trans (half_at intLen l k hlt 0 _ rfl)
          simpa using h
        have z0 : wr.frozen? ⟨w.heap.size, k, none⟩ = false := World.ownsRow.frozenAt hown.out _
        have hst := (World.ownsRow.stored hown.out (k * 1) (.int .i64 x)).1
        have e := half_set intLen (zc := zeroInt) rfl l k x Hx.out
        have HO := Lib.hid ((show (halfOf intCells zeroInt l k).set (k * 1) (.int .i64 x) = halfOf intCells zeroInt l (k + 1) from e) ▸ hst)
        rw [Nat.mul_one] at HO
        have HB := Lib.hid (hb.setCell (p := ⟨w.heap.size, k, none⟩) (Nat.le_refl _) (.int .i64 x))
        clear hst e
        go_wp2
        go_roundw
        case rel => exact ⟨k + 1, by omega, by go_num, HO, HB.out⟩
        case measure => simp [intOf]; omega
      · go_wp2
        go_ret
        obtain rfl : k = l.length := by omega
        have ho := hown.out
        rw [half_full] at ho
        exact ⟨_, rfl, ho, hb⟩
def bulkInt (_ : List Int) : Int := 0
theorem szIntS_any (A : Option Addr) (l : List Int) (c : Nat) (w : World) (hl : l.length ≤ 9223372036854775807) (_ : l.length ≤ 1000000000 → SlInt w (.slice A l.length c) l) (lim : Int) (h0 : 0 ≤ lim) (h1 : lim ≤ 1048576) :
    Calls Try.prog 76 #[.slice A l.length c, .int .i64 lim] w fun e w' => e = .returned (.int .i64 (leftOf lim ((l.length : Int) + bulkInt l))) ∧ Below w.heap.size w w' := by
  have e : (l.length : Int) + bulkInt l = (l.length : Int) := by unfold bulkInt; omega
  rw [e]
  generalize l.length = n at *
  by_cases hlt : lim < (n : Int)
  · rw [leftOf_no hlt]
    go_enter Try.func76, Try.ntmps76
    go_wp2
    go_ret
    exact ⟨rfl, Below.refl _ _⟩
  · rw [leftOf_yes hlt]
    go_enter Try.func76, Try.ntmps76
    go_wp2
    go_ret
    exact ⟨rfl, Below.refl _ _⟩
set_option maxHeartbeats 1000000 in
theorem eqIntS_same (va vb : Value) (l : List Int) (w : World) (ha : SlInt w va l) (hb : SlInt w vb l) :
    Calls Try.prog 28 #[va, vb] w fun e w' => e = .returned (.bool true) ∧ Below w.heap.size w w' := by
  obtain ⟨hl, ha⟩ := ha
  obtain ⟨_, hb⟩ := hb
  rcases ha with ⟨rfl, A, c, rfl⟩ | ⟨g, o, c, rfl, hp, _, hca⟩
  · rcases hb with ⟨_, A', c', rfl⟩ | ⟨g', o', c', rfl, hp, _, _⟩
    · go_enter Try.func28, Try.ntmps28
      go_wp2
      refine wp_loop_rounds 1 ?_
      rw [rounds_succ]
      go_wp2
      go_ret
      exact ⟨rfl, Below.refl _ _⟩
    · exact absurd hp (by simp)
  · rcases hb with ⟨rfl, A', c', rfl⟩ | ⟨g', o', c', rfl, _, _, hcb⟩
    · exact absurd hp (by simp)
    · have HA := Lib.hid hca
      have HB := Lib.hid hcb
      clear hca hcb
      go_enter Try.func28, Try.ntmps28
      go_wp2
      go_loopw [5] (fun i wr => ∃ k n : Nat, k ≤ l.length ∧ i = .int .i64 k ∧ wr = w.drewN n) (fun i _ => l.length - (intOf i).toNat)
      case atStart => exact ⟨0, 0, Nat.zero_le _, rfl, rfl⟩
      case round =>
        obtain ⟨k, n, hk, rfl, rfl⟩ := hrel
        by_cases hlt : k < l.length
        · obtain ⟨x, hx⟩ : ∃ x, l[k]? = some x := ⟨_, List.getElem?_eq_getElem hlt⟩
          have a0 := SlInt.cells HA.out k x hx
          have b0 := SlInt.cells HB.out k x hx
          have Hx := Lib.hid hx
          clear hx
          go_wp2
          go_quiet (fail)
          go_wp2
          go_roundw
          case rel => exact ⟨k + 1, _, by omega, by go_num, rfl⟩
          case measure => simp [intOf]; omega
        · go_wp2
          go_ret
          exact ⟨rfl, ⟨rfl, rfl, rfl, Nat.le_refl _, fun _ _ => rfl⟩⟩
/-- What the marking that begins with k writes into cell j. -/
def mvInt (k : Int) (j : Nat) : Value := .int .i64 (k + (j : Int))
set_option maxHeartbeats 4000000 in
theorem markIntS_any (v : Value) (l : List Int) (k : Int) (w : World) (h : SlInt w v l) (hfz : ∀ g, v.ownBlock = some g → ∀ j, w.frozen? ⟨g, j, none⟩ = false) (h0 : 0 ≤ k) (h1 : k ≤ 100000000) (h2 : l.length ≤ 10000000) :
    Calls Try.prog 30 #[v, .int .i64 k] w fun e w' => e = .returned (.int .i64 (k + (l.length : Int))) ∧ MarkedV w' v l.length (mvInt k) ∧ w.grownBy w' v.ownBlock := by
  obtain ⟨hl, h⟩ := h
  rcases h with ⟨rfl, A, c, rfl⟩ | ⟨g, o, c, rfl, hp, hcap, hc⟩
  · go_enter Try.func30, Try.ntmps30
    go_wp2
    refine wp_loop_rounds 1 ?_
    rw [rounds_succ]
    go_wp2
    go_ret
    exact ⟨ret_int (by simp), .inl (by simp), World.grownBy.refl _ _⟩
  · have hs : MarkRowV w g o l.length (mvInt k) 0 w := MarkRowV.start (by have h := vals_of (by omega) intLen hc; rw [Nat.mul_one] at h; exact h) (by omega) (fun j => hfz g rfl j)
    have HS := Lib.hid hs
    clear hs hc hfz
    go_enter Try.func30, Try.ntmps30
    go_wp2
    go_loopw [1, 5] (fun q i wr => ∃ j : Nat, j ≤ l.length ∧ i = .int .i64 j ∧ q = .int .i64 (k + (j : Int)) ∧ Hid (MarkRowV w g o l.length (mvInt k) j wr)) (fun _ i _ => l.length - (intOf i).toNat)
    case atStart => exact ⟨0, Nat.zero_le _, rfl, by simp, HS⟩
    case round =>
      obtain ⟨j, hj, rfl, rfl, hM⟩ := hrel
      by_cases hlt : j < l.length
      · clear HS
        obtain ⟨x0, c0⟩ := hM.out.read j (by omega) (by omega) (o + j) (by omega)
        have f0 := hM.out.2.2.2.1 (o + j)
        have M0 := Lib.hid (hM.out.next (by omega) (o + j) (by omega) (.int .i64 (k + (j : Int))) rfl (j + 1) rfl)
        go_wp2
        go_roundw
        case rel =>
          refine ⟨j + 1, by omega, by go_num, ?_, M0⟩
          congr 1; omega
        case measure => simp [intOf]; omega
      · go_wp2
        go_ret
        obtain rfl : j = l.length := by omega
        exact ⟨rfl, .inr ⟨g, o, l.length, c, rfl, hM.out.2.1⟩, hM.out.1⟩
set_option maxHeartbeats 4000000 in
theorem heldIntS_any (v : Value) (len : Nat) (A : Option Addr) (c : Nat) (hv : v = .slice A len c) (k : Int) (w : World) (h : MarkedV w v len (mvInt k)) (h0 : 0 ≤ k) (h1 : k ≤ 100000000) (h2 : len ≤ 10000000) :
    Calls Try.prog 31 #[v, .int .i64 k] w fun e w' => e = .returned (.int .i64 (k + (len : Int))) ∧ Below w.heap.size w w' := by
  subst hv
  rcases h with hn | ⟨g, o, len', c', hv, hc⟩
  · obtain rfl : len = 0 := by omega
    go_enter Try.func31, Try.ntmps31
    go_wp2
    refine wp_loop_rounds 1 ?_
    rw [rounds_succ]
    go_wp2
    go_ret
    exact ⟨ret_int (by simp), Below.refl _ _⟩
  · injection hv with hA hlen hcap
    subst hA hlen hcap
    have HC := Lib.hid hc
    clear hc
    go_enter Try.func31, Try.ntmps31
    go_wp2
    go_loop [1, 5] (fun q i => ∃ j : Nat, j ≤ len ∧ i = .int .i64 j ∧ q = .int .i64 (k + (j : Int))) (fun _ i => len - (intOf i).toNat)
    case atStart => exact ⟨0, Nat.zero_le _, rfl, by simp⟩
    case round =>
      obtain ⟨j, hj, rfl, rfl⟩ := hrel
      by_cases hlt : j < len
      · have c0 : w.cell? ⟨g, o + j, none⟩ = some (.int .i64 (k + (j : Int))) := HC.out j (by omega)
        go_wp2
        go_round
        case rel =>
          refine ⟨j + 1, by omega, by go_num, ?_⟩
          congr 1; omega
        case measure => simp [intOf]; omega
      · go_wp2
        go_ret
        obtain rfl : j = len := by omega
        exact ⟨rfl, Below.refl _ _⟩
section
variable {H : Type} {enc : TypeId × Value → H} {w : World} {base : Nat} {spare : Nat → Bool} {held : Bool}
def IntD.wf (x : IntD) : Prop := (Lit.int .i64 x).wf = true
theorem dec_int (n : Nat) (cs : List Value) (y : DataW H × List MemPlace) (h : DataW.trod enc Try.prog w base spare held n 3 cs = some y) : ∃ x : Int, cs = intCells x ∧ IntD.wf x := by
  obtain ⟨a, ha, _, wa⟩ := DataW.trod_int Try.underlying3 h
  exact ⟨a, ha, wa⟩
theorem open_ints {fuel : Nat} {v : Value} {x : DataW H × List MemPlace} (h : DataW.trod enc Try.prog w base (fun _ => true) held fuel 33 [v] = some x) :
    ∃ A c l, v = .slice A l.length c ∧ l.length ≤ maxLen ∧ (l.length ≤ 1000000000 → SlInt w (.slice A l.length c) l) ∧ ∀ d ∈ l, IntD.wf d :=
  open_elems intCells 1 IntD.wf Try.underlying33 (by kernel_rfl) intLen (by omega) dec_int h
theorem open_ints_arg {r : Reach} {b0 : Nat} {v : Value} {d : DataW H} {ps : List MemPlace} (hval : Value.okWide Try.prog w r b0 33 v) (hd : DataW.Trod enc Try.prog w 0 (fun _ => true) true 33 v d ps) :
    ∃ A c l, v = .slice A l.length c ∧ l.length ≤ maxLen ∧ (l.length ≤ 1000000000 → SlInt w (.slice A l.length c) l) ∧ ∀ d ∈ l, IntD.wf d := by
  obtain ⟨A, len, cap, rfl⟩ := okWide_slice Try.underlying33 hval
  obtain ⟨fuel, hf⟩ := hd
  exact open_ints hf
end
end Go.Proofs.Ytlddampjbmklkaa
