
/- What AfloatLaw rests on, part 2: contracts and mathematics. -/
import Derived.Test.YtpimcbhjkednpaaAf0
import Derived.Deep.Slices
import Derived.Deep.Fields
import Derived.ChangeSame
import Derived.StillTailTactics
import Derived.Test.YtpimcbhjkednpaaAf1
import Derived.IntWalk
namespace Go.Proofs.Ytpimcbhjkednpaa
open Go.ChangeShapes Go.WideShapes Go.Deep Go.RowKit
section
variable {H : Type} {enc : TypeId × Value → H} {P : Program} {w : World} {base : Nat} {spare : Nat → Bool} {held : Bool}
/-- A list out of what is known of each place. -/
theorem list_of {α : Type} (n : Nat) (R : Nat → α → Prop) (h : ∀ i, i < n → ∃ d, R i d) : ∃ l : List α, l.length = n ∧ ∀ i x, l[i]? = some x → R i x := by
  induction n with
  | zero => exact ⟨[], rfl, fun i x hx => by simp at hx⟩
  | succ n ih =>
    obtain ⟨l, hl, hr⟩ := ih (fun i hi => h i (by omega))
    obtain ⟨d, hd⟩ := h n (by omega)
    refine ⟨l ++ [d], by simp [hl], fun i x hx => ?_⟩
    rcases Nat.lt_or_ge i l.length with hi | hi
    · rw [List.getElem?_append_left hi] at hx
      exact hr i x hx
    · rw [List.getElem?_append_right hi] at hx
      have : i - l.length = 0 := by
        rcases Nat.eq_zero_or_pos (i - l.length) with h | h
        · exact h
        · rw [List.getElem?_eq_none (by simp; omega)] at hx; cases hx
      rw [this] at hx
      simp at hx
      subst hx
      have : i = n := by omega
      rw [this]; exact hd
/-- A slice that came in, element by element: each element's cells are those of a datum of which Q holds. -/
theorem open_elems {α : Type} (cells : α → List Value) (k : Nat) (Q : α → Prop) {t e : TypeId} {fuel : Nat} {v : Value} {x : DataW H × List MemPlace} (ht : P.underlying t = some (.slice e)) (hC : P.cellsOf e = k) (hlen : ∀ d, (cells d).length = k) (hk0 : 0 < k)
    (dec : ∀ n cs y, DataW.trod enc P w base (fun _ => true) held n e cs = some y → ∃ d, cs = cells d ∧ Q d)
    (h : DataW.trod enc P w base (fun _ => true) held fuel t [v] = some x) :
    ∃ A c l, v = .slice A l.length c ∧ l.length ≤ maxLen ∧ (l.length ≤ 1000000000 → SlOf k cells w (.slice A l.length c) l) ∧ ∀ d ∈ l, Q d := by
  rcases open_slice ht h with ⟨hcs, _⟩ | ⟨a, len, cap, m, n, D, Pl, hcs, _, hl, hm, hmm, _, hi⟩
  · simp at hcs
    subst hcs
    exact ⟨none, 0, [], rfl, by simp, fun h => ⟨h, .inl ⟨rfl, _, _, rfl⟩⟩, by simp⟩
  · simp at hcs
    subst hcs
    simp only [if_true] at hmm
    rw [hmm] at hi
    clear hmm
    rw [hC] at hi
    obtain ⟨l, hll, hr⟩ := list_of len (fun i d => Q d ∧ w.cells? base (a.add (i * k)) k = some (cells d)) (fun i hil => by
      obtain ⟨cs, hc, ht'⟩ := hi i (by omega)
      obtain ⟨d, rfl, hq⟩ := dec _ _ _ ht'
      exact ⟨d, hq, hc⟩)
    subst hll
    refine ⟨some a, cap, l, rfl, by omega, fun h => ⟨h, ?_⟩, fun d hd => ?_⟩
    · rcases Nat.eq_zero_or_pos l.length with h0 | h0
      · exact .inl ⟨List.eq_nil_of_length_eq_zero h0, some a, cap, by rw [h0]⟩
      · right
        obtain ⟨b, off, spot⟩ := a
        have hspot : spot = none := by
          have hq := (hr 0 l[0] (List.getElem?_eq_getElem h0)).2
          obtain ⟨_, hcl, hat⟩ := World.cells?_some hq
          have := hat 0 hk0
          rw [List.getElem?_eq_getElem (by omega)] at this
          simpa [Addr.add] using World.cell?_spot this
        subst hspot
        have hadd : ∀ j, (⟨b, off, none⟩ : Addr).add j = ⟨b, off + j, none⟩ := fun j => by unfold Addr.add; split <;> simp_all
        refine ⟨b, off, cap, rfl, h0, hl, fun i d hd j u hu => ?_⟩
        obtain ⟨_, hcl, hat⟩ := World.cells?_some (hr i d hd).2
        have hj : j < k := by have := (List.getElem?_eq_some_iff.1 hu).1; rw [hlen] at this; exact this
        have := hat j hj
        rw [hadd, hu] at this
        have hadd2 : (⟨b, off + i * k, none⟩ : Addr).add j = ⟨b, off + i * k + j, none⟩ := by unfold Addr.add; split <;> simp_all
        rw [hadd2] at this
        exact this
    · obtain ⟨i, hi⟩ := List.getElem?_of_mem hd
      exact (hr i d hi).1
end
end Go.Proofs.Ytpimcbhjkednpaa
namespace Go.Proofs.Ytpimcbhjkednpaa
open Go.RowKit
/-- A cell of an older block is set: what is owned stays owned. -/
theorem own_set_under {α : Type} {k : Nat} {cs : α → List Value} {t : TypeId} {w : World} {base : Nat} {v : Value} {l : List α} (h : OwnOf k cs t w base v l) {a : Addr} (ha : a.block < base) (u : Value) : OwnOf k cs t (w.setCell a u) base v l := by
  refine World.ownsRow.kept h (row := some a.block) ⟨rfl, rfl, rfl, by simp [World.setCell], fun i hi hne => Below.heap_setCell w _ u i (by rintro rfl; exact hne rfl)⟩ ?_
  cases hv : v.ownBlock with
  | none => exact .inl rfl
  | some g =>
    right
    intro e
    have := (World.ownsRow.lt h g hv).1
    have := Option.some.inj e
    omega
end Go.Proofs.Ytpimcbhjkednpaa
namespace Go.Proofs.Ytpimcbhjkednpaa
open Go.ChangeShapes Go.WideShapes Go.ChangeAt Go.Deep Go.RowKit
set_option maxRecDepth 100000
structure SurgeD where
  fr : Int
  lo : Int
  hi : Int
@[reducible] def SurgeD.val (d : SurgeD) : Value := .agg #[.int .i64 d.fr, .int .i64 d.lo, .int .i64 d.hi]
@[reducible] def SurgeD.cells (d : SurgeD) : List Value := [.int .i64 d.fr, .int .i64 d.lo, .int .i64 d.hi]
theorem surgeLen (d : SurgeD) : d.cells.length = 3 := rfl
def SlSurge : World → Value → List SurgeD → Prop := SlOf 3 SurgeD.cells
def OwnSurge : World → Nat → Value → List SurgeD → Prop := OwnOf 3 SurgeD.cells 96
theorem SlSurge.at {w : World} {v : Value} {l : List SurgeD} (h : SlSurge w v l) : ∃ A c, v = .slice A l.length c := SlOf.form h
theorem SlSurge.below {w w' : World} {v : Value} {l : List SurgeD} (h : SlSurge w v l) (hb : Below w.heap.size w w') : SlSurge w' v l := SlOf.below h hb
theorem OwnSurge.sl {w : World} {base : Nat} {v : Value} {l : List SurgeD} (h : OwnSurge w base v l) (hl : l.length ≤ 1000000000) : SlSurge w v l := own_sl surgeLen h hl
theorem SlSurge.cells {w : World} {l : List SurgeD} {g o : Nat} (hc : ∀ i x, l[i]? = some x → ∀ j u, (SurgeD.cells x)[j]? = some u → w.cell? ⟨g, o + i * 3 + j, none⟩ = some u) (i : Nat) (x : SurgeD) (hx : l[i]? = some x) :
    w.cell? ⟨g, o + i * 3, none⟩ = some (.int .i64 x.fr) ∧ w.cell? ⟨g, o + i * 3 + 1, none⟩ = some (.int .i64 x.lo) ∧ w.cell? ⟨g, o + i * 3 + 2, none⟩ = some (.int .i64 x.hi) :=
  ⟨hc i x hx 0 _ rfl, hc i x hx 1 _ rfl, hc i x hx 2 _ rfl⟩
theorem info_surge : (Try.prog.info? 96).map (fun i => (i.zero, i.size, i.bytes)) = some (some (.agg #[.int .i64 0, .int .i64 0, .int .i64 0]), 3, 24) := by kernel_rfl
section
variable {H : Type} {enc : TypeId × Value → H} {w : World} {base : Nat} {spare : Nat → Bool} {held : Bool}
def SurgeD.wf (d : SurgeD) : Prop := (Lit.int .i64 d.fr).wf = true ∧ (Lit.int .i64 d.lo).wf = true ∧ (Lit.int .i64 d.hi).wf = true
end
end Go.Proofs.Ytpimcbhjkednpaa
namespace Go.Proofs.Ytpimcbhjkednpaa
open Go.RowKit
set_option maxRecDepth 100000
/-- What a part adds at the minute t. -/
def addI (t : Int) (x : PartD) : Int := (x.amp * waveI (t + x.pha) x.per).tdiv 10000
def levI (m : Int) (l : List PartD) (t : Int) : Int := l.foldl (fun s x => s + addI t x) m
def ampI (l : List PartD) : Int := l.foldl (fun s x => s + x.amp) 0
theorem tdiv_le {a y : Int} (h0 : -(a * 10000) ≤ y) (h1 : y ≤ a * 10000) : -a ≤ y.tdiv 10000 ∧ y.tdiv 10000 ≤ a := by
  rcases Int.le_total 0 y with h | h
  · rw [Int.tdiv_eq_ediv_of_nonneg h]; omega
  · have e : y.tdiv 10000 = -((-y).tdiv 10000) := by rw [Int.neg_tdiv, Int.neg_neg]
    rw [e, Int.tdiv_eq_ediv_of_nonneg (by omega)]; omega
theorem mul_le {a y : Int} (ha : 0 ≤ a) (h0 : -10000 ≤ y) (h1 : y ≤ 10000) : -(a * 10000) ≤ a * y ∧ a * y ≤ a * 10000 := by
  have u := Int.mul_le_mul_of_nonneg_left h1 ha
  have v := Int.mul_le_mul_of_nonneg_left h0 ha
  have e : a * -10000 = -(a * 10000) := by omega
  omega
theorem addI_num {t : Int} {x : PartD} (hx : partB x = true) : -10000000 ≤ x.amp * waveI (t + x.pha) x.per ∧ x.amp * waveI (t + x.pha) x.per ≤ 10000000 := by
  obtain ⟨a0, a1, _⟩ := partB_true hx
  obtain ⟨w0, w1⟩ := waveI_le (t + x.pha) x.per
  have := mul_le a0 w0 w1
  omega
theorem addI_le {t : Int} {x : PartD} (hx : partB x = true) : -x.amp ≤ addI t x ∧ addI t x ≤ x.amp := by
  obtain ⟨a0, a1, _⟩ := partB_true hx
  obtain ⟨w0, w1⟩ := waveI_le (t + x.pha) x.per
  obtain ⟨u, v⟩ := mul_le a0 w0 w1
  exact tdiv_le u v
theorem levI_snoc (m : Int) (l : List PartD) (t : Int) (x : PartD) : levI m (l ++ [x]) t = levI m l t + addI t x := by simp [levI]
theorem ampI_snoc (l : List PartD) (x : PartD) : ampI (l ++ [x]) = ampI l + x.amp := by simp [ampI]
theorem sum_bounds (m t : Int) (l : List PartD) (h : ∀ x ∈ l, partB x = true) (k : Nat) (hk : k ≤ l.length) : 0 ≤ ampI (l.take k) ∧ ampI (l.take k) ≤ 1000 * k ∧ m - ampI (l.take k) ≤ levI m (l.take k) t ∧ levI m (l.take k) t ≤ m + ampI (l.take k) := by
  induction k with
  | zero => simp [ampI, levI]
  | succ k ih =>
    obtain ⟨x, hx⟩ : ∃ x, l[k]? = some x := ⟨_, List.getElem?_eq_getElem (by omega)⟩
    have hp := h x (List.mem_of_getElem? hx)
    obtain ⟨a0, a1, _⟩ := partB_true hp
    have := addI_le (t := t) hp
    have := ih (by omega)
    rw [take_snoc' l k x hx, levI_snoc, ampI_snoc]
    omega
theorem levI_le (m t : Int) (l : List PartD) (h : ∀ x ∈ l, partB x = true) : 0 ≤ ampI l ∧ ampI l ≤ 1000 * l.length ∧ m - ampI l ≤ levI m l t ∧ levI m l t ≤ m + ampI l := by
  have := sum_bounds m t l h l.length (Nat.le_refl _)
  rwa [List.take_length] at this
theorem implWaveQ (n p : Int) (w : World) (k : Nat) : Calls Try.prog 101 #[.int .i64 n, .int .i64 p] (w.drewN k) fun e w' => e = .returned (.int .i64 (waveI n p)) ∧ w' = w.drewN k :=
  (implWave n p (w.drewN k)).mono fun _ _ ⟨he, hw⟩ => ⟨he, hw.symm⟩
set_option maxHeartbeats 2000000 in
theorem levelOf_any (m : Int) (v : Value) (l : List PartD) (t : Int) (w : World) (h : SlP w v l) (hv : tideB m l = true) (t0 : 0 ≤ t) (t1 : t ≤ 2880) :
    Calls Try.prog 92 #[.agg #[.int .i64 m, v], .int .i64 t] w fun e w' => e = .returned (.int .i64 (levI m l t)) ∧ Below w.heap.size w w' := by
  obtain ⟨m0, m1, hlen, hall⟩ := tideB_true hv
  have HALL := Lib.hid hall
  clear hv hall
  obtain ⟨_, h⟩ := h
  rcases h with ⟨rfl, A, c, rfl⟩ | ⟨g, o, c, rfl, hp, hcap, hc⟩
  · go_enter Try.func92, Try.ntmps92
    go_wp2
    refine wp_loop_rounds 1 ?_
    rw [rounds_succ]
    go_wp2
    go_ret
    exact ⟨rfl, Joins.below_alloc1 _ _⟩
  · have HC := Lib.hid hc
    clear hc
    have X0 : (w.alloc (.cells #[.int .i64 m, .slice (some ⟨g, o, none⟩) l.length c] 25)).cell? ⟨w.heap.size, 1, none⟩ = some (.slice (some ⟨g, o, none⟩) l.length c) := by
      rw [World.cell?_alloc_at _ _ _ _ rfl]; rfl
    have HX0 := Lib.hid X0
    clear X0
    go_enter Try.func92, Try.ntmps92
    go_wp2
    go_loopw [5, 13] (fun s i wr => ∃ k : Nat, k ≤ l.length ∧ i = .int .i64 k ∧ s = .int .i64 (levI m (l.take k) t) ∧ Hid (wr.cell? ⟨w.heap.size, 1, none⟩ = some (.slice (some ⟨g, o, none⟩) l.length c)) ∧ Hid (Below w.heap.size w wr) ∧ w.heap.size < wr.heap.size) (fun _ i _ => l.length - (intOf i).toNat)
    case atStart => exact ⟨0, Nat.zero_le _, rfl, rfl, HX0, Lib.hid (Joins.below_alloc1 _ _), by simp⟩
    case round =>
      obtain ⟨k, hk, rfl, rfl, hbox, hb, hsz⟩ := hrel
      obtain ⟨s0, s1, s2, s3⟩ := sum_bounds m t l HALL.out k hk
      by_cases hlt : k < l.length
      · obtain ⟨x, hx⟩ : ∃ x, l[k]? = some x := ⟨_, List.getElem?_eq_getElem hlt⟩
        obtain ⟨p0, p1, p2⟩ := SlP.cells HC.out k x hx
        have hg : g < w.heap.size := World.block_lt_of_cell? w ⟨g, o + k * 3, none⟩ p0
        have a0 := (hb.out.cell (p := ⟨g, o + k * 3, none⟩) hg).trans p0
        have a1 := (hb.out.cell (p := ⟨g, o + k * 3 + 1, none⟩) hg).trans p1
        have a2 := (hb.out.cell (p := ⟨g, o + k * 3 + 2, none⟩) hg).trans p2
        have bx := hbox.out
        have hpx := HALL.out x (List.mem_of_getElem? hx)
        obtain ⟨n0, n1⟩ := addI_num (t := t) hpx
        obtain ⟨d0, d1⟩ := addI_le (t := t) hpx
        obtain ⟨y0, y1, yp, y3, y4⟩ := partB_true hpx
        obtain ⟨q0, q1, _⟩ := perB_true yp
        have HN := Lib.hid ((congrArg (levI m · t) (take_snoc' l k x hx)).trans (levI_snoc m (l.take k) t x))
        unfold addI at d0 d1
        clear p0 p1 p2 hx hpx yp
        go_wp2
        go_quiet ((go_at_call 101; exact Calls.quiet_of_same (implWaveQ _ _ _ _)))
        go_wp2
        go_roundw
        case rel =>
          refine ⟨k + 1, by omega, by go_num, ?_, ?_, ?_, ?_⟩
          · rw [HN.out]; rfl
          · refine Lib.hid ((Below.cell (B := wr.heap.size) (w := wr) ?_ hsz).trans hbox.out)
            repeat (first | exact Below.refl _ _ | refine below_drewN ?_ _ | refine Below.setCell ?_ (by first | omega | (simp <;> omega)) _ | refine Below.alloc ?_ (by first | omega | (simp <;> omega)) _)
          · refine Lib.hid ?_
            repeat (first | exact hb.out | refine below_drewN ?_ _ | refine Below.setCell ?_ (by first | omega | (simp <;> omega)) _ | refine Below.alloc ?_ (by first | omega | (simp <;> omega)) _)
          · simp; omega
        case measure => simp [intOf]; omega
      · go_wp2
        go_ret
        obtain rfl : k = l.length := by omega
        rw [List.take_length]
        exact ⟨rfl, hb.out⟩
/-- LevelAt's answer. -/
def atI (m : Int) (l : List PartD) (t : Int) : Int := if tideB m l = true ∧ 0 ≤ t ∧ t ≤ 2880 then levI m l t else 0
theorem atI_yes {m : Int} {l : List PartD} {t : Int} (h : tideB m l = true) (t0 : 0 ≤ t) (t1 : t ≤ 2880) : atI m l t = levI m l t := if_pos ⟨h, t0, t1⟩
theorem atI_no {m : Int} {l : List PartD} {t : Int} (h : ¬ (tideB m l = true ∧ 0 ≤ t ∧ t ≤ 2880)) : atI m l t = 0 := if_neg h
theorem isMinute_any (t : Int) (w : World) : Calls Try.prog 89 #[.int .i64 t] w fun e w' => e = .returned (.bool (inB t 0 2880)) ∧ w = w' := by
  by_cases h1 : 0 ≤ t
  · by_cases h2 : t ≤ 2880
    · have H := Lib.hid (inB_mk h1 h2)
      go_enter Try.func89, Try.ntmps89
      go_wp2
      go_ret
      exact ⟨ret_bool H.out.symm, rfl⟩
    · have H := Lib.hid (inB_no (x := t) (lo := 0) (hi := 2880) (.inr (by omega)))
      have h3 : decide (t ≤ 2880) = false := decide_eq_false h2
      go_enter Try.func89, Try.ntmps89
      go_wp2
      go_ret
      exact ⟨ret_bool H.out.symm, rfl⟩
  · have H := Lib.hid (inB_no (x := t) (lo := 0) (hi := 2880) (.inl (by omega)))
    have h3 : decide (0 ≤ t) = false := decide_eq_false h1
    go_enter Try.func89, Try.ntmps89
    go_wp2
    go_ret
    exact ⟨ret_bool H.out.symm, rfl⟩
set_option maxHeartbeats 1000000 in
theorem implLevelAt (m : Int) (v : Value) (l : List PartD) (t : Int) (w : World) (h : SlP w v l) :
    Calls Try.prog 69 #[.agg #[.int .i64 m, v], .int .i64 t] w fun e w' => e = .returned (.int .i64 (atI m l t)) ∧ Below w.heap.size w w' := by
  have H := Lib.hid h
  obtain ⟨A, c, rfl⟩ := h.at
  have hb0 := Joins.below_alloc1 w (.cells #[.int .i64 m, .slice A l.length c] 25)
  have B0 := Lib.hid hb0
  have C := Lib.hid (implTideOk m _ l _ (H.out.below hb0))
  clear h hb0
  cases hv : tideB m l with
  | false =>
    have E := Lib.hid (atI_no (m := m) (l := l) (t := t) (by simp [hv]))
    rw [hv] at C
    clear hv
    go_enter Try.func69, Try.ntmps69
    go_wp2_with fail
    refine C.out.mono ?_
    rintro e w1 ⟨rfl, hb1⟩
    have B1 := Lib.hid (B0.out.trans (hb1.mono (by simp)))
    clear hb1
    go_wp2
    go_ret
    exact ⟨ret_int E.out.symm, B1.out⟩
  | true =>
    by_cases h1 : 0 ≤ t ∧ t ≤ 2880
    · have E := Lib.hid (atI_yes (m := m) (l := l) (t := t) hv h1.1 h1.2)
      have E1 := Lib.hid (inB_mk h1.1 h1.2)
      have HV := Lib.hid hv
      obtain ⟨t0, t1⟩ := h1
      rw [hv] at C
      clear hv
      go_enter Try.func69, Try.ntmps69
      go_wp2_with fail
      refine C.out.mono ?_
      rintro e w1 ⟨rfl, hb1⟩
      obtain ⟨hc, hf⟩ := bcell hb1
      have B1 := Lib.hid (B0.out.trans (hb1.mono (by simp)))
      clear hb1
      go_wp2_with fail
      refine (isMinute_any _ _).mono ?_
      rintro e w2 ⟨rfl, rfl⟩
      rw [E1.out]
      go_wp2_with fail
      refine (levelOf_any m _ l t w1 (H.out.below B1.out) HV.out (by omega) (by omega)).mono ?_
      rintro e w2 ⟨rfl, hb2⟩
      have B2 := Lib.hid (B1.out.trans (hb2.mono B1.out.size))
      clear hb2 hc hf
      go_wp2
      go_ret
      exact ⟨ret_int E.out.symm, B2.out⟩
    · have E := Lib.hid (atI_no (m := m) (l := l) (t := t) (by omega))
      have E1 := Lib.hid (inB_no (x := t) (lo := 0) (hi := 2880) (by omega))
      rw [hv] at C
      clear hv h1
      go_enter Try.func69, Try.ntmps69
      go_wp2_with fail
      refine C.out.mono ?_
      rintro e w1 ⟨rfl, hb1⟩
      have B1 := Lib.hid (B0.out.trans (hb1.mono (by simp)))
      clear hb1
      go_wp2_with fail
      refine (isMinute_any _ _).mono ?_
      rintro e w2 ⟨rfl, rfl⟩
      rw [E1.out]
      go_wp2
      go_ret
      exact ⟨ret_int E.out.symm, B1.out⟩
end Go.Proofs.Ytpimcbhjkednpaa
namespace Go.Proofs.Ytpimcbhjkednpaa
open Go.RowKit
set_option maxRecDepth 100000
def surgeB (d : SurgeD) : Bool := decide (0 ≤ d.fr ∧ d.fr ≤ 2880 ∧ -500 ≤ d.lo ∧ d.lo ≤ d.hi ∧ d.hi ≤ 500)
theorem surgeB_mk {d : SurgeD} (h : 0 ≤ d.fr ∧ d.fr ≤ 2880 ∧ -500 ≤ d.lo ∧ d.lo ≤ d.hi ∧ d.hi ≤ 500) : surgeB d = true := decide_eq_true h
theorem surgeB_no {d : SurgeD} (h : ¬ (0 ≤ d.fr ∧ d.fr ≤ 2880 ∧ -500 ≤ d.lo ∧ d.lo ≤ d.hi ∧ d.hi ≤ 500)) : surgeB d = false := decide_eq_false h
theorem surgeB_true {d : SurgeD} (h : surgeB d = true) : 0 ≤ d.fr ∧ d.fr ≤ 2880 ∧ -500 ≤ d.lo ∧ d.lo ≤ d.hi ∧ d.hi ≤ 500 := of_decide_eq_true h
theorem implSurgeOk (d : SurgeD) (w : World) : Calls Try.prog 99 #[d.val] w fun e w' => e = .returned (.bool (surgeB d)) ∧ Below w.heap.size w w' := by
  obtain ⟨f, a, b⟩ := d
  by_cases h0 : 0 ≤ f ∧ f ≤ 2880
  · have E0 := Lib.hid (inB_mk h0.1 h0.2)
    by_cases h1 : -500 ≤ a
    · by_cases h2 : a ≤ b
      · by_cases h3 : b ≤ 500
        · have H := Lib.hid (surgeB_mk (d := ⟨f, a, b⟩) ⟨h0.1, h0.2, h1, h2, h3⟩)
          clear h0
          go_enter Try.func99, Try.ntmps99
          go_wp2_with fail
          refine (isMinute_any _ _).mono ?_
          rintro e w1 ⟨rfl, rfl⟩
          rw [E0.out]
          go_wp2
          go_ret
          exact ⟨ret_bool H.out.symm, Joins.below_alloc1 _ _⟩
        · have H := Lib.hid (surgeB_no (d := ⟨f, a, b⟩) (by simp; omega))
          have h4 : decide (b ≤ 500) = false := decide_eq_false h3
          clear h0
          go_enter Try.func99, Try.ntmps99
          go_wp2_with fail
          refine (isMinute_any _ _).mono ?_
          rintro e w1 ⟨rfl, rfl⟩
          rw [E0.out]
          go_wp2
          go_ret
          exact ⟨ret_bool H.out.symm, Joins.below_alloc1 _ _⟩
      · have H := Lib.hid (surgeB_no (d := ⟨f, a, b⟩) (by simp; omega))
        have h4 : decide (a ≤ b) = false := decide_eq_false h2
        clear h0
        go_enter Try.func99, Try.ntmps99
        go_wp2_with fail
        refine (isMinute_any _ _).mono ?_
        rintro e w1 ⟨rfl, rfl⟩
        rw [E0.out]
        go_wp2
        go_ret
        exact ⟨ret_bool H.out.symm, Joins.below_alloc1 _ _⟩
    · have H := Lib.hid (surgeB_no (d := ⟨f, a, b⟩) (by simp; omega))
      have h4 : decide (-500 ≤ a) = false := decide_eq_false h1
      clear h0
      go_enter Try.func99, Try.ntmps99
      go_wp2_with fail
      refine (isMinute_any _ _).mono ?_
      rintro e w1 ⟨rfl, rfl⟩
      rw [E0.out]
      go_wp2
      go_ret
      exact ⟨ret_bool H.out.symm, Joins.below_alloc1 _ _⟩
  · have E0 := Lib.hid (inB_no (x := f) (lo := 0) (hi := 2880) (by omega))
    have H := Lib.hid (surgeB_no (d := ⟨f, a, b⟩) (by simp; omega))
    clear h0
    go_enter Try.func99, Try.ntmps99
    go_wp2_with fail
    refine (isMinute_any _ _).mono ?_
    rintro e w1 ⟨rfl, rfl⟩
    rw [E0.out]
    go_wp2
    go_ret
    exact ⟨ret_bool H.out.symm, Joins.below_alloc1 _ _⟩
end Go.Proofs.Ytpimcbhjkednpaa
namespace Go.Proofs.Ytpimcbhjkednpaa
open Go.RowKit
/-- The surge k is valid and begins behind the one before it. -/
def okB (s : List SurgeD) (k : Nat) : Bool :=
  match s[k]? with
  | none => false
  | some x => surgeB x && (k == 0 || match s[k - 1]? with | none => false | some y => decide (y.fr < x.fr))
def headB (s : List SurgeD) : Bool := match s[0]? with | none => false | some x => decide (x.fr = 0)
def fcB (m : Int) (l : List PartD) (s : List SurgeD) : Bool := tideB m l && decide (1 ≤ s.length ∧ s.length ≤ 6) && headB s && (List.range s.length).all (okB s)
def FirstFc (s : List SurgeD) (k : Nat) : Prop := ∀ j, j < k → okB s j = true
theorem fcB_true {m : Int} {l : List PartD} {s : List SurgeD} (h : fcB m l s = true) : tideB m l = true ∧ 1 ≤ s.length ∧ s.length ≤ 6 ∧ headB s = true ∧ FirstFc s s.length := by
  unfold fcB at h
  simp only [Bool.and_eq_true, decide_eq_true_eq, List.all_eq_true] at h
  exact ⟨h.1.1.1, h.1.1.2.1, h.1.1.2.2, h.1.2, fun j hj => h.2 j (by simpa using hj)⟩
theorem fcB_mk {m : Int} {l : List PartD} {s : List SurgeD} (h0 : tideB m l = true) (h1 : 1 ≤ s.length) (h2 : s.length ≤ 6) (h3 : headB s = true) (h4 : FirstFc s s.length) : fcB m l s = true := by
  unfold fcB
  simp only [Bool.and_eq_true, decide_eq_true_eq, List.all_eq_true]
  exact ⟨⟨⟨h0, h1, h2⟩, h3⟩, fun j hj => h4 j (by simpa using hj)⟩
theorem fcB_tide {m : Int} {l : List PartD} {s : List SurgeD} (h : tideB m l = false) : fcB m l s = false := by
  cases e : fcB m l s with
  | false => rfl
  | true => rw [(fcB_true e).1] at h; cases h
theorem fcB_len {m : Int} {l : List PartD} {s : List SurgeD} (h : s.length = 0 ∨ 6 < s.length) : fcB m l s = false := by
  cases e : fcB m l s with
  | false => rfl
  | true => have := fcB_true e; omega
theorem fcB_head {m : Int} {l : List PartD} {s : List SurgeD} (h : headB s = false) : fcB m l s = false := by
  cases e : fcB m l s with
  | false => rfl
  | true => rw [(fcB_true e).2.2.2.1] at h; cases h
theorem fcB_bad {m : Int} {l : List PartD} {s : List SurgeD} (k : Nat) (hk : k < s.length) (h : okB s k = false) : fcB m l s = false := by
  cases e : fcB m l s with
  | false => rfl
  | true => rw [(fcB_true e).2.2.2.2 k hk] at h; cases h
theorem headB_of {s : List SurgeD} {x : SurgeD} (h : s[0]? = some x) : headB s = decide (x.fr = 0) := by unfold headB; rw [h]
theorem okB_bad {s : List SurgeD} {k : Nat} {x : SurgeD} (h : s[k]? = some x) (hx : surgeB x = false) : okB s k = false := by unfold okB; rw [h]; simp [hx]
theorem okB_zero {s : List SurgeD} {x : SurgeD} (h : s[0]? = some x) (hx : surgeB x = true) : okB s 0 = true := by unfold okB; rw [h]; simp [hx]
theorem okB_succ {s : List SurgeD} {k : Nat} {x y : SurgeD} (h : s[k + 1]? = some x) (hx : surgeB x = true) (h' : s[k]? = some y) : okB s (k + 1) = decide (y.fr < x.fr) := by
  unfold okB; rw [h]; simp [hx, h']
theorem FirstFc.next {s : List SurgeD} {k : Nat} (h : FirstFc s k) (hk : okB s k = true) : FirstFc s (k + 1) := by
  intro j hj
  by_cases e : j = k
  · subst e; exact hk
  · exact h j (by omega)
theorem FirstFc.zero (s : List SurgeD) : FirstFc s 0 := fun _ hj => absurd hj (by omega)
theorem okB_valid {s : List SurgeD} {k : Nat} {x : SurgeD} (h : okB s k = true) (hx : s[k]? = some x) : surgeB x = true := by
  unfold okB at h; rw [hx] at h; simp at h; exact h.1
/-- Among the first k surges, the place of the last that begins at t or before (0 if there is none). -/
def lastLe (s : List SurgeD) (t : Int) : Nat → Nat
  | 0 => 0
  | k + 1 => match s[k]? with
    | none => lastLe s t k
    | some x => if x.fr ≤ t then k else lastLe s t k
theorem lastLe_yes {s : List SurgeD} {t : Int} {k : Nat} {x : SurgeD} (h : s[k]? = some x) (hx : x.fr ≤ t) : lastLe s t (k + 1) = k := by unfold lastLe; rw [h]; simp [hx]
theorem lastLe_no {s : List SurgeD} {t : Int} {k : Nat} {x : SurgeD} (h : s[k]? = some x) (hx : ¬ x.fr ≤ t) : lastLe s t (k + 1) = lastLe s t k := by
  conv => lhs; unfold lastLe
  rw [h]; simp [hx]
theorem lastLe_lt {s : List SurgeD} {t : Int} (h0 : 0 < s.length) : ∀ k, k ≤ s.length → lastLe s t k < s.length := by
  intro k
  induction k with
  | zero => intro _; exact h0
  | succ k ih =>
    intro hk
    obtain ⟨x, hx⟩ : ∃ x, s[k]? = some x := ⟨_, List.getElem?_eq_getElem (by omega)⟩
    by_cases h : x.fr ≤ t
    · rw [lastLe_yes hx h]; omega
    · rw [lastLe_no hx h]; exact ih (by omega)
def atS (s : List SurgeD) (t : Int) : SurgeD := (s[lastLe s t s.length]?).getD ⟨0, 0, 0⟩
theorem atS_of {s : List SurgeD} {t : Int} (h0 : 0 < s.length) : s[lastLe s t s.length]? = some (atS s t) := by
  unfold atS
  rw [List.getElem?_eq_getElem (lastLe_lt h0 _ (Nat.le_refl _))]; rfl
theorem atS_ok {s : List SurgeD} {t : Int} (h0 : 0 < s.length) (h : FirstFc s s.length) : surgeB (atS s t) = true :=
  okB_valid (h _ (lastLe_lt h0 _ (Nat.le_refl _))) (atS_of h0)
end Go.Proofs.Ytpimcbhjkednpaa
namespace Go.Proofs.Ytpimcbhjkednpaa
open Go.RowKit
/-- The begins ascend. -/
def Asc (s : List SurgeD) : Prop := ∀ (i j : Nat) (x y : SurgeD), i < j → s[i]? = some x → s[j]? = some y → x.fr < y.fr
theorem asc_pair {s : List SurgeD} : Asc s ↔ s.Pairwise (fun x y => x.fr < y.fr) := by
  constructor
  · intro ha
    rw [List.pairwise_iff_getElem]
    intro i j hi hj hij
    exact ha i j _ _ hij (List.getElem?_eq_getElem hi) (List.getElem?_eq_getElem hj)
  · intro hp i j x y hij hx hy
    rw [List.pairwise_iff_getElem] at hp
    obtain ⟨hi, rfl⟩ := List.getElem?_eq_some_iff.1 hx
    obtain ⟨hj, rfl⟩ := List.getElem?_eq_some_iff.1 hy
    exact hp i j hi hj hij
theorem first_of {s : List SurgeD} (ha : Asc s) (hs : ∀ x ∈ s, surgeB x = true) : FirstFc s s.length := by
  intro k hk
  obtain ⟨x, hx⟩ : ∃ x, s[k]? = some x := ⟨_, List.getElem?_eq_getElem hk⟩
  have hv := hs x (List.mem_of_getElem? hx)
  cases k with
  | zero => exact okB_zero hx hv
  | succ k =>
    obtain ⟨y, hy⟩ : ∃ y, s[k]? = some y := ⟨_, List.getElem?_eq_getElem (by omega)⟩
    rw [okB_succ hx hv hy]
    exact decide_eq_true (ha k (k + 1) y x (by omega) hy hx)
theorem surge_one (x : SurgeD) : ∀ v ∈ x.cells, v.oneCell' = true := fun v hv => by simp at hv; rcases hv with rfl | rfl | rfl <;> rfl
end Go.Proofs.Ytpimcbhjkednpaa
