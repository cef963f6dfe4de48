
/- What ExactFreeTimes and BerthsLaw rests on, part 17: contracts and mathematics. -/
import Derived.Test.YtghjfcnboocmjaaBc15
import Derived.Test.YtghjfcnboocmjaaBc12
import Derived.Test.YtghjfcnboocmjaaSortShelf
import Derived.Test.YtghjfcnboocmjaaBc16
import Derived.Test.YtghjfcnboocmjaaBc10
import Derived.Test.YtghjfcnboocmjaaBc9
namespace Go.Proofs.Ytghjfcnboocmjaa
open Go.RowKit
set_option maxRecDepth 100000
def bits (f : Nat → Bool) : List Bool := (List.range 2881).map f
theorem bits_len (f : Nat → Bool) : (bits f).length = 2881 := by simp [bits]
theorem bits_at (f : Nat → Bool) {j : Nat} (h : j < 2881) : (bits f)[j]? = some (f j) := by
  unfold bits; rw [List.getElem?_map, List.getElem?_range h]; rfl
theorem bits_congr {f g : Nat → Bool} (h : ∀ j, j < 2881 → f j = g j) : bits f = bits g := by
  unfold bits
  apply List.map_congr_left
  intro j hj
  exact h j (List.mem_range.1 hj)
theorem ofMarks_congr {f g : Nat → Bool} : ∀ n, (∀ j, j < n → f j = g j) → ofMarks f n = ofMarks g n := by
  intro n
  induction n with
  | zero => intro _; rfl
  | succ n ih =>
    intro h
    have := ih fun j hj => h j (by omega)
    simp only [ofMarks, this, h n (by omega)]
theorem ofMarks_bits (f : Nat → Bool) : ofMarks (markF (bits f)) (bits f).length = ofMarks f 2881 := by
  rw [bits_len]
  exact ofMarks_congr 2881 fun j hj => markF_at (bits_at f hj)
theorem flat_bool (l : List Bool) : l.flatMap boolCells = l.map Value.bool := by
  induction l with
  | nil => rfl
  | cons b l ih => simp [List.flatMap_cons, ih]
theorem bits_set (f : Nat → Bool) {m : Nat} (h : m < 2881) : ((bits f).map Value.bool).set m (.bool true) = (bits (fun j => f j || j == m)).map Value.bool := by
  apply List.ext_getElem?
  intro j
  rw [List.getElem?_set]
  by_cases e : m = j
  · subst e
    simp [bits, h]
  · rw [if_neg e]
    by_cases hj : j < 2881
    · rw [List.getElem?_map, List.getElem?_map, bits_at _ hj, bits_at _ hj]
      have : (j == m) = false := by simp; omega
      simp [this]
    · rw [List.getElem?_eq_none (by simp [bits]; omega), List.getElem?_eq_none (by simp [bits]; omega)]
def gathL (l : List WindowD) : List WindowD := ofMarks (fun j => hasB l (j : Int)) 2881
theorem gathL_len (l : List WindowD) : (gathL l).length ≤ 2881 := ofMarks_len _ _
theorem info_bool : (Try.prog.info? 4).map (fun i => (i.zero, i.size, i.bytes)) = some (some (.bool false), 1, 1) := by kernel_rfl
theorem make_bools (n : Nat) (hn : n ≤ 1000000000) (W : World) :
    (Instr.makeSlice 115 (.int .i64 (n : Int)) (.int .i64 (n : Int))).run Try.prog W = .ok (.slice (some ⟨W.heap.size, 0, none⟩) n n) (W.alloc (.cells (madeCells #[.bool false] (n * 1)) 4)) := by
  obtain ⟨i0, hi, hz0, hz1, hz2⟩ := info_parts info_bool
  have hr := run_make (P := Try.prog) W 115 4 i0 _ Try.underlying115 hi hz0 .i64 .i64 n n (by omega) (Int.le_refl _) (by rw [hz2]; omega) (by omega)
  simp only [Int.toNat_natCast, hz1] at hr
  exact hr
/-- The marks of the minutes in a row of the call's own. -/
def MarkW (w : World) (f : Nat → Bool) (wr : World) : Prop :=
  wr.ownsRow w.heap.size 4 1 (.slice (some ⟨w.heap.size, 0, none⟩) 2881 2881) 2881 ((bits f).map Value.bool) ∧ Below w.heap.size w wr
theorem MarkW.start (w : World) : MarkW w (fun _ => false) (w.alloc (.cells (madeCells #[.bool false] (2881 * 1)) 4)) := by
  refine ⟨?_, (Below.refl _ _).alloc (Nat.le_refl _) _⟩
  have h := World.ownsRow_lit (base := w.heap.size) (e := 4) (size := 1) w (madeCells #[.bool false] (2881 * 1)) 2881 (Nat.le_refl _) (by unfold maxLen; omega) (by rw [size_madeCells])
  have e := made_flat #[.bool false] 2881
  rw [show (#[Value.bool false]).size = 1 from rfl] at e
  rw [e] at h
  rw [show (bits fun _ => false).map Value.bool = (List.replicate 2881 #[Value.bool false].toList).flatten by
    apply List.ext_getElem?
    intro j
    by_cases hj : j < 2881
    · rw [List.getElem?_map, bits_at _ hj, flatten_rep_at _ _ _ (by simpa using hj)]; simp [Nat.mod_one]
    · rw [List.getElem?_eq_none (by simp [bits]; omega), List.getElem?_eq_none (by simp; omega)]]
  exact h
theorem MarkW.below {w wr W : World} {f : Nat → Bool} (h : MarkW w f wr) (hb : Below wr.heap.size wr W) : MarkW w f W := ⟨ownsRow_below h.1 hb, h.2.trans (hb.mono h.2.size)⟩
theorem MarkW.cell {w wr : World} {f : Nat → Bool} (h : MarkW w f wr) {m : Nat} (hm : m < 2881) : wr.cell? ⟨w.heap.size, m, none⟩ = some (.bool (f m)) ∧ wr.frozen? ⟨w.heap.size, m, none⟩ = false := by
  refine ⟨(World.ownsRow.cellAt h.1 m (by omega)).trans ?_, World.ownsRow.frozenAt h.1 _⟩
  rw [List.getElem?_map, bits_at _ hm]; rfl
theorem MarkW.set {w wr : World} {f : Nat → Bool} (h : MarkW w f wr) {m : Nat} (hm : m < 2881) : MarkW w (fun j => f j || j == m) (wr.setCell ⟨w.heap.size, m, none⟩ (.bool true)) := by
  have hst := (World.ownsRow.stored h.1 m (.bool true)).1
  rw [bits_set f hm] at hst
  exact ⟨hst, h.2.setCell (p := ⟨w.heap.size, m, none⟩) (Nat.le_refl _) _⟩
theorem MarkW.congr {w wr : World} {f g : Nat → Bool} (h : MarkW w f wr) (e : ∀ j, j < 2881 → f j = g j) : MarkW w g wr := by
  unfold MarkW; rw [← bits_congr e]; exact h
theorem MarkW.sl {w wr : World} {f : Nat → Bool} (h : MarkW w f wr) : SlBool wr (.slice (some ⟨w.heap.size, 0, none⟩) 2881 2881) (bits f) := by
  refine own_sl (t := 4) (base := w.heap.size) boolLen ?_ (by rw [bits_len]; omega)
  unfold OwnOf
  rw [bits_len, flat_bool]
  exact h.1
/-- Minutes of earlier windows, or of this one up to m. -/
def upF (l : List WindowD) (lo m : Int) (j : Nat) : Bool := hasB l (j : Int) || decide (lo ≤ (j : Int) ∧ (j : Int) < m)
theorem upF_set (l : List WindowD) (lo m : Int) (h0 : lo ≤ m) (hm : 0 ≤ m) : ∀ j, (upF l lo m j || j == m.toNat) = upF l lo (m + 1) j := by
  intro j
  unfold upF
  rw [Bool.or_assoc]
  congr 1
  rw [Bool.eq_iff_iff]
  simp only [Bool.or_eq_true, decide_eq_true_eq, beq_iff_eq]
  omega
theorem hasB_next {l : List WindowD} {k : Nat} {x : WindowD} (h : l[k]? = some x) (t : Int) : hasB (l.take (k + 1)) t = (hasB (l.take k) t || atB t x) := by
  unfold hasB; rw [take_snoc' l k x h, List.any_append]; simp
theorem upF_start (l : List WindowD) (lo : Int) (j : Nat) : upF l lo lo j = hasB l (j : Int) := by
  unfold upF
  rw [decide_eq_false (by omega), Bool.or_false]
theorem upF_end {l : List WindowD} {k : Nat} {x : WindowD} {lo hi m : Int} (hx : l[k]? = some x) (hlo : lo = max 0 x.fr) (hhi : hi = min 2880 x.tt) (hm : hi < m) (hm2 : m ≤ hi + 1 ∨ m = lo) :
    ∀ j : Nat, j < 2881 → upF (l.take k) lo m j = hasB (l.take (k + 1)) (j : Int) := by
  intro j hj
  rw [hasB_next hx]
  unfold upF atB inB
  congr 1
  rw [Bool.eq_iff_iff]
  simp only [decide_eq_true_eq]
  omega
set_option maxHeartbeats 8000000 in
theorem specGatherWindows (v : Value) (l : List WindowD) (w : World) (h : SlWindow w v l) :
    Calls Try.prog 74 #[v] w (NewWindow (gathL l) w) := by
  have H := Lib.hid h
  have hl := h.1
  obtain ⟨A, c, rfl⟩ := h.at
  clear h
  have hmk := make_bools 2881 (by omega)
  have e2881 : ((2881 : Nat) : Int) = 2881 := rfl
  rw [e2881] at hmk
  clear e2881
  go_enter Try.func74, Try.ntmps74
  go_wp2
  clear hmk
  have M0 := Lib.hid (MarkW.start w)
  go_loopw [10] (fun p wr => ∃ i : Nat, i ≤ l.length ∧ p = .int .i64 i ∧ Hid (MarkW w (fun j => hasB (l.take i) (j : Int)) wr)) (fun p _ => l.length - (intOf p).toNat)
  case atStart => exact ⟨0, Nat.zero_le _, rfl, by simpa [hasB] using M0⟩
  case round =>
    obtain ⟨i, hi, rfl, hM⟩ := hrel
    have hsz := hM.out.2.size
    by_cases hlt : i < l.length
    rotate_left
    · obtain rfl : i = l.length := by omega
      rw [List.take_length] at hM
      have CO := Lib.hid (l04Of_any _ _ wr hM.out.sl (by rw [bits_len]; omega))
      rw [ofMarks_bits] at CO
      go_wp2_with fail
      refine CO.out.mono ?_
      rintro e w4 ⟨v4, rfl, h1, h2⟩
      have K1 := Lib.hid h1
      have K2 := Lib.hid h2
      obtain ⟨A3, c3, rfl⟩ := own_form h1
      clear h1 h2
      go_wp2
      go_ret
      exact ⟨_, rfl, own_lo K1.out hsz, hM.out.2.trans (K2.out.mono hsz)⟩
    · obtain ⟨x, hx⟩ : ∃ x, l[i]? = some x := ⟨_, List.getElem?_eq_getElem hlt⟩
      obtain ⟨g, o, rfl, hg, p0, p1⟩ := H.out.place hx
      have a0 := (hM.out.2.cell (p := ⟨g, o + i * 2, none⟩) hg).trans p0
      have a1 := (hM.out.2.cell (p := ⟨g, o + i * 2 + 1, none⟩) hg).trans p1
      have hgr : g < wr.heap.size := by omega
      clear p0 p1
      obtain ⟨lo, hlo⟩ : ∃ lo, lo = max 0 x.fr := ⟨_, rfl⟩
      obtain ⟨hi', hhi⟩ : ∃ hi', hi' = min 2880 x.tt := ⟨_, rfl⟩
      have elo : (if 0 < x.fr then x.fr else 0) = lo := by rw [hlo]; split <;> omega
      have ehi : (if x.tt < 2880 then x.tt else 2880) = hi' := by rw [hhi]; split <;> omega
      have UE := Lib.hid (fun m => upF_end (m := m) hx hlo hhi)
      have h2880 : hi' ≤ 2880 := by omega
      have hlo0 : 0 ≤ lo := by omega
      have HX := Lib.hid hx
      clear hx hlo hhi
      have B1 := Lib.hid (Blk.new wr #[.int .i64 x.fr, .int .i64 x.tt] 86)
      have M1 := Lib.hid (hM.out.below (Joins.below_alloc1 wr (.cells #[.int .i64 x.fr, .int .i64 x.tt] 86)))
      obtain ⟨Bx, hBx⟩ : ∃ Bx, Bx = wr.heap.size := ⟨_, rfl⟩
      have hne : w.heap.size ≠ Bx := by
        have := (World.ownsRow.lt hM.out.1 w.heap.size rfl).2
        omega
      rw [← hBx] at B1
      go_wp2
      rw [← hBx]
      have M2 := Lib.hid (M1.out.congr (g := upF (l.take i) lo lo.toNat) (fun j _ => by rw [show ((lo.toNat : Nat) : Int) = lo by omega, upF_start]))
      have hszB : wr.heap.size = Bx := hBx.symm
      clear hBx M1 a0 a1 hgr
      go_loopw [6] (fun p wq => ∃ m : Nat, p = .int .i64 (m : Int) ∧ lo ≤ (m : Int) ∧ ((m : Int) ≤ hi' + 1 ∨ (m : Int) = lo) ∧ Hid (MarkW w (upF (l.take i) lo (m : Int)) wq) ∧ Hid (Blk wq Bx #[.int .i64 x.fr, .int .i64 x.tt] 86)) (fun p _ => (hi' + 1 - intOf p).toNat)
      case atStart => exact ⟨lo.toNat, by congr 1; omega, by omega, .inr (by omega), M2, B1⟩
      case round =>
        obtain ⟨m, rfl, hm0, hm1, hQ, hBk⟩ := hrel
        have x1 : wr.cell? ⟨Bx, 1, none⟩ = some (.int .i64 x.tt) := hBk.out.cell 1
        by_cases hm : (m : Int) ≤ hi'
        · obtain ⟨q1, q2⟩ := hQ.out.cell (m := m) (by omega)
          have hidx : (m : Int) < 2881 := by omega
          have QS := Lib.hid ((hQ.out.set (m := m) (by omega)).congr (g := upF (l.take i) lo ((m + 1 : Nat) : Int)) (fun j _ => by have := upF_set (l.take i) lo (m : Int) hm0 (by omega) j; rw [Int.toNat_natCast] at this; rw [show ((m + 1 : Nat) : Int) = (m : Int) + 1 by omega]; exact this))
          have BS := Lib.hid (hBk.out.other hne.symm m (.bool true))
          go_wp2
          go_roundw
          case rel => exact ⟨m + 1, by go_num, by omega, .inl (by omega), QS, BS⟩
          case measure => simp [intOf]; omega
        · have QE := Lib.hid (hQ.out.congr (UE.out (m : Int) (by omega) hm1))
          go_wp2
          go_roundw
          case rel => exact ⟨i + 1, by omega, by go_num, QE⟩
          case measure => simp [intOf]; omega
end Go.Proofs.Ytghjfcnboocmjaa
namespace Go.Proofs.Ytghjfcnboocmjaa
open Go.RowKit Go.Shelf
set_option maxRecDepth 100000
theorem end_none {P : Program} {fn : Func} {R : Ending → World → Prop} {a : Act} {w : World} (hr : fn.results = #[]) (hd : a.defers = []) (hR : R (.returned (.tuple #[])) w) : bodyPost P fn R .normal a w := by
  refine bodyPost_ret (v := .tuple #[]) ?_ hd hR
  simp [results, hr, go_sem]
set_option maxHeartbeats 2000000 in
theorem insNone (p : Option Addr) (cap : Nat) (fv : Value) (w : World) :
    Calls Try.prog 114 #[.slice p 0 cap, .int .i64 0, .int .i64 0, fv] w fun e w' => e = .returned (.tuple #[]) ∧ w' = w := by
  go_enter Try.func114, Try.ntmps114
  go_wp2
  refine wp_loop_rounds 1 ?_
  rw [rounds_succ]
  go_wp2
  exact end_none rfl rfl ⟨rfl, rfl⟩
set_option maxHeartbeats 2000000 in
theorem pdqNone (p : Option Addr) (cap : Nat) (lim : Int) (fv : Value) (w : World) :
    Calls Try.prog 111 #[.slice p 0 cap, .int .i64 0, .int .i64 0, .int .i64 lim, fv] w fun e w' => e = .returned (.tuple #[]) ∧ w' = w := by
  go_enter Try.func111, Try.ntmps111
  go_wp2
  refine wp_loop_rounds 1 ?_
  rw [rounds_succ]
  go_wp2_with fail
  refine (insNone p cap fv _).mono ?_
  rintro e w' ⟨rfl, rfl⟩
  go_wp2
  (try simp only [Exit.inBlock, Exit.then]); refine bodyPost_ret (results_none rfl _ _ _) rfl ?_
  exact ⟨rfl, rfl⟩
set_option maxHeartbeats 2000000 in
theorem sortNone (p : Option Addr) (cap : Nat) (fv : Value) (w : World) :
    Calls Try.prog 108 #[.slice p 0 cap, fv] w fun e w' => e = .returned (.tuple #[]) ∧ w' = w := by
  have hl : ∀ W, Calls Try.prog 112 #[.int .u64 0] W fun e w' => e = .returned (.int .i64 (Lib.bitLen 0 : Nat)) ∧ w' = W := fun W => by
    have h := Any.bits_Len (SlLaysF0.n15.bits { Try.sortW with }) 0 W (by omega) (by omega)
    exact h
  go_enter Try.func108, Try.ntmps108
  go_wp2_with fail
  refine (hl _).mono ?_
  rintro e w' ⟨rfl, rfl⟩
  go_wp2_with fail
  refine (pdqNone _ _ _ _ _).mono ?_
  rintro e w' ⟨rfl, rfl⟩
  go_wp2
  exact end_none rfl rfl ⟨rfl, rfl⟩
end Go.Proofs.Ytghjfcnboocmjaa
namespace Go.Proofs.Ytghjfcnboocmjaa
theorem gath_ok (l : List WindowD) : WOk (gathL l) := (ofMarks_spec _ 2881 (by omega)).1
theorem gath_has (l : List WindowD) {m : Int} (h0 : 0 ≤ m) (h1 : m ≤ 2880) : Has (gathL l) m ↔ Has l m := by
  unfold gathL
  rw [(ofMarks_spec _ 2881 (by omega)).2 m]
  constructor
  · rintro ⟨j, rfl, _, hj⟩
    exact (has_iff l _).1 hj
  · intro h
    exact ⟨m.toNat, by omega, by omega, by rw [show ((m.toNat : Nat) : Int) = m by omega]; exact (has_iff l m).2 h⟩
/-- What the fold over valid windows has built: the minutes up to m that are not in the windows. -/
def Gf (l : List WindowD) (acc : List WindowD) (m : Int) : Prop :=
  WOk acc ∧ (∀ y ∈ acc, y.tt + 1 < m) ∧ 0 ≤ m ∧ m ≤ 2881 ∧ (∀ x ∈ l, x.tt < m) ∧ (l = [] → m = 0) ∧ (∀ j, Has acc j ↔ 0 ≤ j ∧ j < m ∧ ¬ Has l j) ∧ sumW acc + sumW l = m ∧ (l ≠ [] → ∃ x ∈ l, m = x.tt + 1)
theorem gfold_spec (l : List WindowD) : WOk l → Gf l (gfold l).1 (gfold l).2 := by
  refine snoc_ind (P := fun l => WOk l → Gf l (gfold l).1 (gfold l).2) ?_ ?_ l
  · intro _
    refine ⟨WOk.nil, by simp [gfold], by simp [gfold], by simp [gfold], by simp, fun _ => rfl, fun j => ⟨fun h => absurd h (Has.nil _), fun h => ?_⟩, rfl, by simp⟩
    have e : (gfold []).2 = 0 := rfl
    rw [e] at h
    omega
  · intro l x ih h
    obtain ⟨h1, h2, h3, h4, h5, h6, h7, h8, h9⟩ := ih h.init
    have hx := h.last
    have hm : (gfold l).2 ≤ x.fr := by
      by_cases he : l = []
      · have := h6 he; omega
      · obtain ⟨y, hy, e⟩ := h9 he
        have := h.ahead hy
        omega
    have hm2 : l ≠ [] → (gfold l).2 < x.fr := by
      intro he
      obtain ⟨y, hy, e⟩ := h9 he
      have := h.ahead hy
      omega
    have e : gfold (l ++ [x]) = gstep (gfold l) x := by unfold gfold; rw [List.foldl_append]; rfl
    rw [e]
    have hl : ∀ j, Has (l ++ [x]) j ↔ Has l j ∨ (x.fr ≤ j ∧ j ≤ x.tt) := fun j => by rw [has_append, has_one]
    have hlate : ∀ j, Has l j → j < (gfold l).2 := fun j ⟨y, hy, _, hy2⟩ => by have := h5 y hy; omega
    unfold gstep
    by_cases hp : (gfold l).2 < x.fr
    · rw [if_pos hp]
      refine ⟨h1.snoc ⟨h3, by simp only; omega, by simp only; omega⟩ (fun y hy => h2 y hy), fun y hy => ?_, by simp only; omega, by simp only; omega, fun y hy => ?_, by simp, fun j => ?_, ?_, fun _ => ⟨x, by simp, rfl⟩⟩
      · simp only
        rcases List.mem_append.1 hy with hy | hy
        · have := h2 y hy; omega
        · rw [List.mem_singleton.1 hy]; simp only; omega
      · simp only
        rcases List.mem_append.1 hy with hy | hy
        · have := h5 y hy; omega
        · rw [List.mem_singleton.1 hy]; omega
      · rw [has_append, has_one, h7 j, hl j]
        simp only
        constructor
        · rintro (⟨a, b, d⟩ | ⟨a, b⟩)
          · exact ⟨a, by omega, fun h => by rcases h with h | h; exact d h; omega⟩
          · exact ⟨by omega, by omega, fun h => by rcases h with h | h; (have := hlate j h; omega); omega⟩
        · rintro ⟨a, b, d⟩
          by_cases hj : j < (gfold l).2
          · exact .inl ⟨a, hj, fun h => d (.inl h)⟩
          · right
            refine ⟨by omega, ?_⟩
            rcases Int.lt_or_le (x.fr - 1) j with h | h
            · exact absurd (.inr ⟨by omega, by omega⟩) d
            · exact h
      · rw [sumW_snoc, sumW_snoc]; simp only; omega
    · rw [if_neg hp]
      have he : x.fr = (gfold l).2 := by omega
      refine ⟨h1, fun y hy => ?_, by simp only; omega, by simp only; omega, fun y hy => ?_, by simp, fun j => ?_, ?_, fun _ => ⟨x, by simp, rfl⟩⟩
      · simp only; have := h2 y hy; omega
      · simp only
        rcases List.mem_append.1 hy with hy | hy
        · have := h5 y hy; omega
        · rw [List.mem_singleton.1 hy]; omega
      · rw [h7 j, hl j]
        simp only
        constructor
        · rintro ⟨a, b, d⟩
          exact ⟨a, by omega, fun h => by rcases h with h | h; exact d h; omega⟩
        · rintro ⟨a, b, d⟩
          refine ⟨a, ?_, fun h => d (.inl h)⟩
          rcases Int.lt_or_le j (gfold l).2 with h | h
          · exact h
          · exact absurd (.inr ⟨by omega, by omega⟩) d
      · rw [sumW_snoc]; simp only; omega
/-- The other minutes: valid windows, every minute of the time in one of the two, and in one alone. -/
theorem other_spec {l : List WindowD} (h : WOk l) : WOk (otherW l) ∧ (∀ m, Has (otherW l) m ↔ 0 ≤ m ∧ m ≤ 2880 ∧ ¬ Has l m) ∧ sumW l + sumW (otherW l) = 2881 := by
  obtain ⟨h1, h2, h3, h4, h5, h6, h7, h8, h9⟩ := gfold_spec l h
  have hlate : ∀ j, Has l j → j < (gfold l).2 := fun j ⟨y, hy, _, hy2⟩ => by have := h5 y hy; omega
  unfold otherW
  by_cases hp : (gfold l).2 ≤ 2880
  · rw [if_pos hp]
    refine ⟨h1.snoc ⟨h3, by simp only; omega, by simp⟩ h2, fun m => ?_, ?_⟩
    · rw [has_append, has_one, h7 m]
      simp only
      constructor
      · rintro (⟨a, b, d⟩ | ⟨a, b⟩)
        · exact ⟨a, by omega, d⟩
        · exact ⟨by omega, b, fun h => by have := hlate m h; omega⟩
      · rintro ⟨a, b, d⟩
        by_cases hm : m < (gfold l).2
        · exact .inl ⟨a, hm, d⟩
        · exact .inr ⟨by omega, b⟩
    · rw [sumW_snoc]; simp only; omega
  · rw [if_neg hp]
    refine ⟨h1, fun m => ?_, by omega⟩
    rw [h7 m]
    constructor
    · rintro ⟨a, b, d⟩; exact ⟨a, by omega, d⟩
    · rintro ⟨a, b, d⟩; exact ⟨a, by omega, d⟩
theorem WOk.none {l : List WindowD} (h : WOk l) (hn : ∀ m, ¬ Has l m) : l = [] := by
  cases l with
  | nil => rfl
  | cons x l =>
    have := h.head
    exact absurd ((has_cons _ _ _).2 (.inl ⟨Int.le_refl _, this.2.1⟩)) (hn x.fr)
end Go.Proofs.Ytghjfcnboocmjaa
