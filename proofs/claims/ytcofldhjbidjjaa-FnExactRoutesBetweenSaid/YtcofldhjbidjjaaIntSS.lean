
/- Lists of lists of ints: how they read, what owns them; laws.eqIntSS, markIntSS, heldIntSS: contracts. -/
import Derived.Test.YtcofldhjbidjjaaInts
import Derived.Test.YtcofldhjbidjjaaTouch
namespace Go.Proofs.Ytcofldhjbidjjaa
open Go.RowKit
set_option maxRecDepth 100000

/-- Two lists of one length whose elements stand in R, one by one. -/
inductive Both {α β : Type} (R : α → β → Prop) : List α → List β → Prop
  | nil : Both R [] []
  | cons {x : α} {y : β} {l : List α} {m : List β} (h : R x y) (t : Both R l m) : Both R (x :: l) (y :: m)
theorem Both.imp {α β : Type} {R S : α → β → Prop} {l : List α} {m : List β} (h : Both R l m) (f : ∀ x y, R x y → S x y) : Both S l m := by
  induction h with
  | nil => exact .nil
  | cons h _ ih => exact .cons (f _ _ h) ih
theorem Both.snoc {α β : Type} {R : α → β → Prop} {l : List α} {m : List β} (h : Both R l m) {x : α} {y : β} (hxy : R x y) : Both R (l ++ [x]) (m ++ [y]) := by
  induction h with
  | nil => exact .cons hxy .nil
  | cons h _ ih => exact .cons h ih
def headCells : Value → List Value := fun v => [v]
theorem headLen (v : Value) : (headCells v).length = 1 := rfl
/-- The slice v holds the slices vs, which read as the lists of ll. -/
def SlLL (w : World) (v : Value) (vs : List Value) (ll : List (List Int)) : Prop := SlOf 1 headCells w v vs ∧ Both (SlInt w) vs ll
theorem SlLL.below {w w' : World} {v : Value} {vs : List Value} {ll : List (List Int)} (h : SlLL w v vs ll) (hb : Below w.heap.size w w') : SlLL w' v vs ll :=
  ⟨SlOf.below h.1 hb, h.2.imp fun _ _ h => h.below hb⟩
theorem SlLL.touch {w w' : World} {v : Value} {vs : List Value} {ll : List (List Int)} {a b c d : Nat} (h : SlLL w v vs ll) (ht : TouchR w w' a b) (hr : RangeV v c d) (hrs : ∀ u ∈ vs, RangeV u c d) (hd : b ≤ c ∨ d ≤ a) : SlLL w' v vs ll := by
  refine ⟨SlOf.touch h.1 ht hr hd, ?_⟩
  have h2 := h.2
  clear h
  induction h2 with
  | nil => exact .nil
  | cons hx _ ih => exact .cons (SlOf.touch hx ht (hrs _ (by simp)) hd) (ih fun u hu => hrs u (by simp [hu]))
theorem forall2_at {α β : Type} {R : α → β → Prop} {l : List α} {m : List β} (h : Both R l m) : l.length = m.length ∧ ∀ (i : Nat) (x : α), l[i]? = some x → ∃ y : β, m[i]? = some y ∧ R x y := by
  induction h with
  | nil => exact ⟨rfl, fun i x hx => by simp at hx⟩
  | cons hx _ ih =>
    refine ⟨by simp [ih.1], fun i x hi => ?_⟩
    cases i with
    | zero => simp at hi; subst hi; exact ⟨_, rfl, hx⟩
    | succ i => simp at hi ⊢; exact ih.2 i x hi
/-- A new list of lists: over memory that is new since base, every part in a block of its own. -/
def OwnLL (w : World) (base : Nat) (v : Value) (ll : List (List Int)) : Prop :=
  ∃ vs, OwnOf 1 headCells 31 w base v vs ∧ Both (OwnInt w base) vs ll ∧ vs.Pairwise ApartV ∧ ∀ u ∈ vs, ApartV v u

set_option maxHeartbeats 1000000 in
theorem eqIntSS_same (va vb : Value) (xs ys : List Value) (ll : List (List Int)) (w : World) (ha : SlLL w va xs ll) (hb : SlLL w vb ys ll) :
    Calls Try.prog 40 #[va, vb] w fun e w' => e = .returned (.bool true) ∧ Below w.heap.size w w' := by
  obtain ⟨ha, hA⟩ := ha
  obtain ⟨hb, hB⟩ := hb
  obtain ⟨la, ga⟩ := forall2_at hA
  obtain ⟨lb, gb⟩ := forall2_at hB
  have GA := Lib.hid ga
  have GB := Lib.hid gb
  clear hA hB ga gb
  obtain ⟨hl, ha⟩ := ha
  obtain ⟨_, hb⟩ := hb
  rcases ha with ⟨ea, A, c, rfl⟩ | ⟨g, o, c, rfl, hp, _, hca⟩
  · have e0 : xs.length = 0 := by rw [ea]; rfl
    rcases hb with ⟨eb, A', c', rfl⟩ | ⟨g', o', c', rfl, hp, _, _⟩
    · go_enter Try.func40, Try.ntmps40
      go_wp2
      refine wp_loop_rounds 1 ?_
      rw [rounds_succ]
      go_wp2
      go_ret
      exact ⟨rfl, Below.refl _ _⟩
    · omega
  · rcases hb with ⟨eb, A', c', rfl⟩ | ⟨g', o', c', rfl, _, _, hcb⟩
    · have e0 : ys.length = 0 := by rw [eb]; rfl
      omega
    · have HA := Lib.hid hca
      have HB := Lib.hid hcb
      have hlen : ys.length = xs.length := by omega
      rw [hlen]
      have HLEN := Lib.hid hlen
      clear hca hcb la lb hlen
      go_enter Try.func40, Try.ntmps40
      go_wp2
      go_loopw [5] (fun i wr => ∃ k : Nat, k ≤ xs.length ∧ i = .int .i64 k ∧ Below w.heap.size w wr) (fun i _ => xs.length - (intOf i).toNat)
      case atStart => exact ⟨0, Nat.zero_le _, rfl, Below.refl _ _⟩
      case round =>
        obtain ⟨k, hk, rfl, hb⟩ := hrel
        by_cases hlt : k < xs.length
        · obtain ⟨x, hx⟩ : ∃ x, xs[k]? = some x := ⟨_, List.getElem?_eq_getElem hlt⟩
          obtain ⟨y, hy⟩ : ∃ y, ys[k]? = some y := ⟨_, List.getElem?_eq_getElem (by have := HLEN.out; omega)⟩
          obtain ⟨l, hl1, hX⟩ := GA.out k x hx
          obtain ⟨l', hl2, hY⟩ := GB.out k y hy
          have e : l' = l := by rw [hl1] at hl2; exact (Option.some.inj hl2).symm
          subst e
          have p0 : w.cell? ⟨g, o + k, none⟩ = some x := by simpa using HA.out k x hx 0 x rfl
          have q0 : w.cell? ⟨g', o' + k, none⟩ = some y := by simpa using HB.out k y hy 0 y rfl
          have hg : g < w.heap.size := World.block_lt_of_cell? w ⟨g, o + k, none⟩ p0
          have hg' : g' < w.heap.size := World.block_lt_of_cell? w ⟨g', o' + k, none⟩ q0
          have a0 := (hb.cell (p := ⟨g, o + k, none⟩) hg).trans p0
          have b0 := (hb.cell (p := ⟨g', o' + k, none⟩) hg').trans q0
          have HXX := Lib.hid hX
          have HYY := Lib.hid hY
          obtain ⟨Ax, cx, rfl⟩ := hX.at
          obtain ⟨Ay, cy, rfl⟩ := hY.at
          have hbs := hb.size
          clear p0 q0 hx hy hl1 hl2 hX hY
          go_wp2
          go_still_tail 8, (by kernel_rfl)
          change wpList _ _ _ _ _ wr.drew
          have hd := hb.drew
          generalize wr.drew = w2 at hd ⊢
          have hds := hd.size
          clear a0 b0 hb hbs
          go_wp2_with fail
          refine (eqIntS_same _ _ l' _ (HXX.out.below hd) (HYY.out.below hd)).mono ?_
          rintro e w3 ⟨rfl, hb3⟩
          have B3 := Lib.hid (hd.trans (hb3.mono hds))
          clear hb3 hd hds
          go_wp2
          go_roundw
          case rel => exact ⟨k + 1, by omega, by go_num, B3.out⟩
          case measure => simp [intOf]; omega
        · go_wp2
          go_ret
          exact ⟨rfl, hb⟩
/-- How many ints the first lists hold. -/
def sumLen : List (List Int) → Nat
  | [] => 0
  | l :: ll => l.length + sumLen ll
theorem sumLen_append (a b : List (List Int)) : sumLen (a ++ b) = sumLen a + sumLen b := by
  induction a with
  | nil => simp [sumLen]
  | cons x a ih => simp [sumLen, ih]; omega
theorem sumLen_next {ll : List (List Int)} {k : Nat} {l : List Int} (h : ll[k]? = some l) : sumLen (ll.take (k + 1)) = sumLen (ll.take k) + l.length := by
  rw [take_snoc' ll k l h, sumLen_append]; simp [sumLen]
theorem sumLen_le (ll : List (List Int)) (k : Nat) : sumLen (ll.take k) ≤ sumLen ll := by
  have e := sumLen_append (ll.take k) (ll.drop k)
  rw [List.take_append_drop] at e
  omega
/-- The first j parts are marked, one behind the other. -/
def MarkedTo (w : World) (vs : List Value) (ll : List (List Int)) (k : Int) (j : Nat) : Prop :=
  ∀ i, i < j → ∀ u l, vs[i]? = some u → ll[i]? = some l → MarkedV w u l.length (mvInt (k + (sumLen (ll.take i) : Int)))

set_option maxHeartbeats 4000000 in
theorem markIntSS_any (v : Value) (vs : List Value) (ll : List (List Int)) (k : Int) (a b : Nat) (w : World) (h : SlLL w v vs ll) (hf : ∀ u ∈ vs, FreeV w u) (hr : RangeV v a b) (hrs : ∀ u ∈ vs, RangeV u a b) (hp : vs.Pairwise ApartV) (hv : ∀ u ∈ vs, ApartV v u)
    (h0 : 0 ≤ k) (h1 : k ≤ 10000000) (h2 : sumLen ll ≤ 80000000) (h3 : vs.length ≤ 10000000) (h4 : ∀ l ∈ ll, l.length ≤ 10000000) :
    Calls Try.prog 41 #[v, .int .i64 k] w fun e w' => e = .returned (.int .i64 (k + (sumLen ll : Int))) ∧ SlOf 1 headCells w' v vs ∧ MarkedTo w' vs ll k vs.length ∧ TouchR w w' a b := by
  obtain ⟨hs, hB⟩ := h
  obtain ⟨hlen, hat⟩ := forall2_at hB
  have HS := Lib.hid hs
  have HAT := Lib.hid hat
  have HF := Lib.hid hf
  have HR := Lib.hid hr
  have HRS := Lib.hid hrs
  have HP := Lib.hid (List.pairwise_iff_getElem.1 hp)
  have HV := Lib.hid hv
  have HLEN := Lib.hid hlen
  clear hB hat hf hr hrs hp hv hlen
  obtain ⟨hl, hs⟩ := hs
  rcases hs with ⟨e, A, c, rfl⟩ | ⟨g, o, c, rfl, hpos, _, hc⟩
  · have e2 : ll = [] := List.eq_nil_of_length_eq_zero (by rw [← HLEN.out, e]; rfl)
    have E := Lib.hid (show MarkedTo w vs ll k vs.length from fun i hi => by rw [e] at hi; simp at hi)
    have E3 := Lib.hid (show k + (sumLen ll : Int) = k by rw [e2]; simp [sumLen])
    clear e2 e
    go_enter Try.func41, Try.ntmps41
    go_wp2
    refine wp_loop_rounds 1 ?_
    rw [rounds_succ]
    go_wp2
    go_ret
    exact ⟨ret_int E3.out.symm, HS.out, E.out, touch_refl _ _ _⟩
  · have HC := Lib.hid hc
    clear hc
    go_enter Try.func41, Try.ntmps41
    go_wp2
    go_loopw [1, 5] (fun q i wr => ∃ j : Nat, j ≤ vs.length ∧ i = .int .i64 j ∧ q = .int .i64 (k + (sumLen (ll.take j) : Int)) ∧ Hid (MarkedTo wr vs ll k j) ∧ Hid (TouchR w wr a b) ∧ Hid (∀ i, i < vs.length → ∀ u, vs[i]? = some u → wr.cell? ⟨g, o + i, none⟩ = some u) ∧ Hid (∀ i u l, j ≤ i → vs[i]? = some u → ll[i]? = some l → SlInt wr u l ∧ FreeV wr u)) (fun _ i _ => vs.length - (intOf i).toNat)
    case atStart =>
      refine ⟨0, Nat.zero_le _, rfl, by simp [sumLen], Lib.hid (fun i hi => absurd hi (by omega)), Lib.hid (touch_refl _ _ _), Lib.hid (fun i hi u hu => by simpa using HC.out i u hu 0 u rfl), Lib.hid (fun i u l _ hu hl => ?_)⟩
      obtain ⟨y, hy, hR⟩ := HAT.out i u hu
      rw [hy] at hl
      cases hl
      exact ⟨hR, HF.out u (List.mem_of_getElem? hu)⟩
    case round =>
      obtain ⟨j, hj, rfl, rfl, hM, hT, hcell, hrest⟩ := hrel
      have hsj := sumLen_le ll j
      by_cases hlt : j < vs.length
      · obtain ⟨u, hu⟩ : ∃ u, vs[j]? = some u := ⟨_, List.getElem?_eq_getElem hlt⟩
        obtain ⟨l, hl, _⟩ := HAT.out j u hu
        obtain ⟨hsl, hfr⟩ := hrest.out j u l (Nat.le_refl _) hu hl
        have c0 := hcell.out j hlt u hu
        have hn := sumLen_next hl
        have hsn := sumLen_le ll (j + 1)
        have HU := Lib.hid hu
        have HL := Lib.hid hl
        have HSL := Lib.hid hsl
        have HFR := Lib.hid hfr
        obtain ⟨Au, cu, rfl⟩ := hsl.at
        have hll := hsl.1
        have hl4 := h4 l (List.mem_of_getElem? hl)
        clear hu hl hsl hfr
        go_wp2_with fail
        refine (markIntS_any _ l (k + (sumLen (ll.take j) : Int)) _ HSL.out (fun g hg => (HFR.out g hg).1) (by omega) (by omega) (by omega)).mono ?_
        rintro e w2 ⟨rfl, hm, hg2⟩
        have hur : RangeV (.slice Au l.length cu) a b := HRS.out _ (List.mem_of_getElem? HU.out)
        have T2 := Lib.hid (hT.out.trans (touch_grown hg2 hur))
        have hapart : ∀ i u', i ≠ j → vs[i]? = some u' → u'.ownBlock = none ∨ u'.ownBlock ≠ (Value.slice Au l.length cu).ownBlock := fun i u' hij hu' => by
          obtain ⟨hi1, rfl⟩ := List.getElem?_eq_some_iff.1 hu'
          obtain ⟨hj1, ej⟩ := List.getElem?_eq_some_iff.1 HU.out
          rcases Nat.lt_or_gt_of_ne hij with h | h
          · have := HP.out i j hi1 hj1 h
            rw [ej] at this
            exact this.ne.2
          · have := HP.out j i hj1 hi1 h
            rw [ej] at this
            exact this.ne.1
        have M2 := Lib.hid (show MarkedTo w2 vs ll k (j + 1) from fun i hi u' l' hu' hl' => by
          by_cases e : i = j
          · subst e
            rw [HU.out] at hu'; cases hu'
            rw [HL.out] at hl'; cases hl'
            exact hm
          · exact (hM.out i (by omega) u' l' hu' hl').grown hg2 (hapart i u' e hu'))
        have C2 := Lib.hid (show ∀ i, i < vs.length → ∀ u, vs[i]? = some u → w2.cell? ⟨g, o + i, none⟩ = some u from fun i hi u' hu' => hg2.cell (hcell.out i hi u' hu') (fun e => by
          have := HV.out _ (List.mem_of_getElem? HU.out) g rfl
          exact this e.symm))
        have R2 := Lib.hid (show ∀ i u l, j + 1 ≤ i → vs[i]? = some u → ll[i]? = some l → SlInt w2 u l ∧ FreeV w2 u from fun i u' l' hi hu' hl' => by
          obtain ⟨h1, h2⟩ := hrest.out i u' l' (by omega) hu' hl'
          exact ⟨SlOf.grown h1 hg2 (hapart i u' (by omega) hu'), h2.grown hg2 (hapart i u' (by omega) hu')⟩)
        clear hm hg2 hapart c0
        go_wp2
        go_roundw
        case rel => exact ⟨j + 1, by omega, by go_num, by rw [hn]; congr 1; simp; omega, M2, T2, C2, R2⟩
        case measure => simp [intOf]; omega
      · obtain rfl : j = vs.length := by omega
        have E := Lib.hid (show (ll.take vs.length) = ll by rw [HLEN.out, List.take_length])
        have SF := Lib.hid (show SlOf 1 headCells wr (.slice (some ⟨g, o, none⟩) vs.length c) vs from ⟨hl, .inr ⟨g, o, c, rfl, hpos, by assumption, fun i x hx j' u hu => by
          cases j' with
          | zero => simp [headCells] at hu; subst hu; simpa using hcell.out i (List.getElem?_eq_some_iff.1 hx).1 x hx
          | succ j' => simp [headCells] at hu⟩⟩)
        go_wp2
        go_ret
        exact ⟨ret_int (by rw [E.out]), SF.out, hM.out, hT.out⟩

set_option maxHeartbeats 4000000 in
theorem heldIntSS_any (v : Value) (vs : List Value) (ll : List (List Int)) (k : Int) (w : World) (h : SlOf 1 headCells w v vs) (hB : Both (fun u (l : List Int) => ∃ A c, u = .slice A l.length c) vs ll) (hM : MarkedTo w vs ll k vs.length)
    (h0 : 0 ≤ k) (h1 : k ≤ 10000000) (h2 : sumLen ll ≤ 80000000) (h3 : vs.length ≤ 10000000) (h4 : ∀ l ∈ ll, l.length ≤ 10000000) :
    Calls Try.prog 42 #[v, .int .i64 k] w fun e w' => e = .returned (.int .i64 (k + (sumLen ll : Int))) ∧ Below w.heap.size w w' := by
  obtain ⟨hlen, hat⟩ := forall2_at hB
  have HAT := Lib.hid hat
  have HM := Lib.hid hM
  have HLEN := Lib.hid hlen
  clear hB hat hM hlen
  obtain ⟨hl, hs⟩ := h
  rcases hs with ⟨e, A, c, rfl⟩ | ⟨g, o, c, rfl, hpos, _, hc⟩
  · have e2 : ll = [] := List.eq_nil_of_length_eq_zero (by rw [← HLEN.out, e]; rfl)
    have E3 := Lib.hid (show k + (sumLen ll : Int) = k by rw [e2]; simp [sumLen])
    clear e2 e
    go_enter Try.func42, Try.ntmps42
    go_wp2
    refine wp_loop_rounds 1 ?_
    rw [rounds_succ]
    go_wp2
    go_ret
    exact ⟨ret_int E3.out.symm, Below.refl _ _⟩
  · have HC := Lib.hid hc
    clear hc
    go_enter Try.func42, Try.ntmps42
    go_wp2
    go_loopw [1, 5] (fun q i wr => ∃ j : Nat, j ≤ vs.length ∧ i = .int .i64 j ∧ q = .int .i64 (k + (sumLen (ll.take j) : Int)) ∧ Hid (Below w.heap.size w wr)) (fun _ i _ => vs.length - (intOf i).toNat)
    case atStart => exact ⟨0, Nat.zero_le _, rfl, by simp [sumLen], Lib.hid (Below.refl _ _)⟩
    case round =>
      obtain ⟨j, hj, rfl, rfl, hb⟩ := hrel
      have hsj := sumLen_le ll j
      by_cases hlt : j < vs.length
      · obtain ⟨u, hu⟩ : ∃ u, vs[j]? = some u := ⟨_, List.getElem?_eq_getElem hlt⟩
        obtain ⟨l, hl, Au, cu, rfl⟩ := HAT.out j u hu
        have p0 : w.cell? ⟨g, o + j, none⟩ = some (.slice Au l.length cu) := by simpa using HC.out j _ hu 0 _ rfl
        have c0 := cell_onV p0 hb.out
        have hn := sumLen_next hl
        have hsn := sumLen_le ll (j + 1)
        have MK := Lib.hid ((HM.out j hlt _ l hu hl).below hb.out)
        have hl4 := h4 l (List.mem_of_getElem? hl)
        have hng : ¬ k + ((sumLen (ll.take j) : Int)) + (l.length : Int) < 0 := by omega
        clear hu hl p0
        go_wp2_with fail
        refine (heldIntS_any _ l.length Au cu rfl (k + (sumLen (ll.take j) : Int)) _ MK.out (by omega) (by omega) (by omega)).mono ?_
        rintro e w2 ⟨rfl, hb2⟩
        have B2 := Lib.hid (hb.out.trans (hb2.mono hb.out.size))
        clear hb2 c0
        go_wp2
        go_roundw
        case rel => exact ⟨j + 1, by omega, by go_num, by rw [hn]; congr 1; simp; omega, B2⟩
        case measure => simp [intOf]; omega
      · obtain rfl : j = vs.length := by omega
        have E := Lib.hid (show (ll.take vs.length) = ll by rw [HLEN.out, List.take_length])
        go_wp2
        go_ret
        exact ⟨ret_int (by rw [E.out]), hb.out⟩
/-! ### For the laws: what a new list of lists gives -/
def FreeVs (w : World) (vs : List Value) : Prop := ∀ u ∈ vs, FreeV w u
def RangeVs (vs : List Value) (a b : Nat) : Prop := ∀ u ∈ vs, RangeV u a b
theorem FreeVs.below {w w' : World} {vs : List Value} (h : FreeVs w vs) (hb : Below w.heap.size w w') : FreeVs w' vs := fun u hu => (h u hu).below hb
theorem FreeVs.touch {w w' : World} {vs : List Value} {a b c d : Nat} (h : FreeVs w vs) (ht : TouchR w w' a b) (hr : RangeVs vs c d) (hd : b ≤ c ∨ d ≤ a) : FreeVs w' vs := fun u hu => (h u hu).touch ht (hr u hu) hd
theorem MarkedTo.below {w w' : World} {vs : List Value} {ll : List (List Int)} {k : Int} {j : Nat} (h : MarkedTo w vs ll k j) (hb : Below w.heap.size w w') : MarkedTo w' vs ll k j := fun i hi u l hu hl => (h i hi u l hu hl).below hb
def Shape (vs : List Value) (ll : List (List Int)) : Prop := Both (fun u (l : List Int) => ∃ A c, u = .slice A l.length c) vs ll
theorem sumLen_mem {ll : List (List Int)} {l : List Int} (h : l ∈ ll) : l.length ≤ sumLen ll := by
  induction ll with
  | nil => simp at h
  | cons x ll ih =>
    rcases List.mem_cons.1 h with rfl | h
    · simp [sumLen]
    · have := ih h; simp [sumLen]; omega
theorem Both.mem {α β : Type} {R : α → β → Prop} {l : List α} {m : List β} (h : Both R l m) {x : α} (hx : x ∈ l) : ∃ y ∈ m, R x y := by
  induction h with
  | nil => simp at hx
  | cons h _ ih =>
    rcases List.mem_cons.1 hx with rfl | hx
    · exact ⟨_, by simp, h⟩
    · obtain ⟨y, hy, hr⟩ := ih hx
      exact ⟨y, by simp [hy], hr⟩
theorem both_sl {w : World} {base : Nat} {vs : List Value} {ll : List (List Int)} (h : Both (OwnInt w base) vs ll) (hs : ∀ l ∈ ll, l.length ≤ 1000000000) : Both (SlInt w) vs ll := by
  induction h with
  | nil => exact .nil
  | cons h _ ih => exact .cons (OwnInt.sl h (hs _ (by simp))) (ih fun l hl => hs l (by simp [hl]))
theorem OwnLL.parts {w : World} {base : Nat} {v : Value} {ll : List (List Int)} (h : OwnLL w base v ll) (h1 : ll.length ≤ 10000000) (h2 : sumLen ll ≤ 80000000) :
    ∃ vs A c, v = .slice A vs.length c ∧ vs.length = ll.length ∧ SlLL w v vs ll ∧ RangeV v base w.heap.size ∧ RangeVs vs base w.heap.size ∧ FreeVs w vs ∧ vs.Pairwise ApartV ∧ (∀ u ∈ vs, ApartV v u) ∧ Shape vs ll := by
  obtain ⟨vs, ho, hB, hp, hv⟩ := h
  have hlen := (forall2_at hB).1
  obtain ⟨A, c, e⟩ := own_form ho
  refine ⟨vs, A, c, e, hlen, ⟨own_sl headLen ho (by omega), both_sl hB (fun l hl => by have := sumLen_mem hl; omega)⟩, own_range ho, fun u hu => ?_, fun u hu => ?_, hp, hv, hB.imp fun u l h => own_form h⟩
  · obtain ⟨l, _, h⟩ := hB.mem hu
    exact own_range h
  · obtain ⟨l, _, h⟩ := hB.mem hu
    exact own_freeV h
end Go.Proofs.Ytcofldhjbidjjaa
