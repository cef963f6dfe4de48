
/- What AfloatLaw rests on, part 15: contracts and mathematics. -/
import Derived.Test.YtpimcbhjkednpaaAf6
import Derived.Test.YtpimcbhjkednpaaAf9
import Derived.Test.YtpimcbhjkednpaaAf10
import Derived.Test.YtpimcbhjkednpaaAf14
import Derived.Test.YtpimcbhjkednpaaAf7
import Derived.StillTailTactics
namespace Go.Proofs.Ytpimcbhjkednpaa
set_option maxRecDepth 100000
def needI (s : ShipD) : Int := if shipB s = true then s.draught + squatI s + 50 else 0
theorem needI_bad {s : ShipD} (h : shipB s = false) : needI s = 0 := if_neg (by rw [h]; simp)
theorem needI_ok {s : ShipD} (h : shipB s = true) : needI s = s.draught + squatI s + 50 := if_pos h
theorem squat_bnd {s : ShipD} (h : shipB s = true) : 0 ≤ squatI s ∧ squatI s ≤ 100 := by
  obtain ⟨-, -, -, d0, d1, -⟩ := shipB_true h
  unfold squatI
  rw [if_pos h]
  split
  · rw [Int.tdiv_eq_ediv_of_nonneg (by omega)]; omega
  · rw [Int.tdiv_eq_ediv_of_nonneg (by omega)]; omega
def levForI (d : ChartD) (i : Int) (s : ShipD) : Int := if sailB d i s = true then (match segAt d i with | some g => needI s - g.depth | none => 0) else 0
theorem levForI_bad {d : ChartD} {i : Int} {s : ShipD} (h : sailB d i s = false) : levForI d i s = 0 := if_neg (by rw [h]; simp)
theorem levForI_ok {d : ChartD} {i : Int} {s : ShipD} {g : SegmentD} (h : sailB d i s = true) (hg : segAt d i = some g) : levForI d i s = needI s - g.depth := by unfold levForI; rw [if_pos h, hg]
theorem levFor_bnd (d : ChartD) (i : Int) (s : ShipD) : -3000 ≤ levForI d i s ∧ levForI d i s ≤ 2150 := by
  cases h : sailB d i s with
  | false => rw [levForI_bad h]; omega
  | true =>
    obtain ⟨h1, h2, g, hg, _, _, _, hs⟩ := sailB_true h
    obtain ⟨-, -, -, d0, d1, -⟩ := shipB_true h2
    have := squat_bnd h2
    obtain ⟨-, -, -, -, -, q0, q1, -⟩ := segB_true hs
    rw [levForI_ok h hg, needI_ok h2]
    omega
def afloatB (d : ChartD) (i : Int) (s : ShipD) (level : Int) : Bool := sailB d i s && decide (levForI d i s ≤ level)
/-- The minutes on the segment: from 1 to 480 where all is valid. -/
theorem minOn_bnd {d : ChartD} {i : Int} {s : ShipD} (h : sailB d i s = true) : 1 ≤ minOn d i s ∧ minOn d i s ≤ 480 := by
  obtain ⟨h1, h2, g, hg, _, _, _, hs⟩ := sailB_true h
  obtain ⟨-, -, -, -, -, -, -, m0, m1⟩ := segB_true hs
  rw [minOn_ok h1 h2 hg]
  unfold onMin
  split <;> omega
/-- The starts: sure ones at the lower end of the band, open ones at the upper end. -/
def startsL (hi : Bool) (f : ForecastD) (d : ChartD) (i : Int) (s : ShipD) : List WindowD := if fcB f.mean f.parts f.surges = true ∧ sailB d i s = true then shrinkL (wetL hi f.mean f.parts f.surges (levForI d i s)) (minOn d i s) else []
theorem startsL_bad {hi : Bool} {f : ForecastD} {d : ChartD} {i : Int} {s : ShipD} (h : fcB f.mean f.parts f.surges = false ∨ sailB d i s = false) : startsL hi f d i s = [] := if_neg (by rintro ⟨h1, h2⟩; rcases h with h | h <;> simp_all)
theorem startsL_ok {hi : Bool} {f : ForecastD} {d : ChartD} {i : Int} {s : ShipD} (h1 : fcB f.mean f.parts f.surges = true) (h2 : sailB d i s = true) : startsL hi f d i s = shrinkL (wetL hi f.mean f.parts f.surges (levForI d i s)) (minOn d i s) := if_pos ⟨h1, h2⟩
def startB (hi : Bool) (f : ForecastD) (d : ChartD) (i : Int) (s : ShipD) (t : Int) : Bool := hasB (startsL hi f d i s) t
/-- What takes n minutes can begin at m of valid windows exactly if all minutes from m to m + n lie in them. -/
theorem shr_has {n m : Int} {l : List WindowD} (hw : WOk l) (hn : 0 ≤ n) : Has (shrW n l) m ↔ ∀ j : Int, m ≤ j → j ≤ m + n → Has l j := by
  constructor
  · rintro ⟨z, hz, h1, h2⟩ j hj1 hj2
    obtain ⟨x, hx, hp, rfl⟩ := mem_shr.1 hz
    simp only at h1 h2
    exact ⟨x, hx, by omega, by omega⟩
  · intro h
    obtain ⟨x, hx, x1, x2⟩ := h m (by omega) (by omega)
    by_cases hb : m + n ≤ x.tt
    · exact ⟨⟨x.fr, x.tt - n⟩, mem_shr.2 ⟨x, hx, by omega, rfl⟩, x1, by show m ≤ x.tt - n; omega⟩
    · obtain ⟨y, hy, y1, y2⟩ := h (x.tt + 1) (by omega) (by omega)
      rcases hw.cmp hx hy with e | e | e
      · subst e; omega
      · omega
      · omega
theorem wet_at {hi : Bool} {f : ForecastD} {level j : Int} (h : fcB f.mean f.parts f.surges = true) : Has (wetL hi f.mean f.parts f.surges level) j ↔ 0 ≤ j ∧ j ≤ 2880 ∧ level ≤ endI hi f.mean f.parts f.surges j := by
  have e : wetL hi f.mean f.parts f.surges level = ofMarks (wetF hi f.mean f.parts f.surges level) 2881 := if_pos h
  rw [e, (ofMarks_spec _ 2881 (by omega)).2 j]
  constructor
  · rintro ⟨k, rfl, hk, hf⟩
    exact ⟨by omega, by omega, of_decide_eq_true hf⟩
  · rintro ⟨h0, h1, h2⟩
    exact ⟨j.toNat, by omega, by omega, by unfold wetF; rw [show ((j.toNat : Nat) : Int) = j by omega]; exact decide_eq_true h2⟩
theorem bool_iff {b : Bool} {p : Prop} [Decidable p] (h : b = true ↔ p) : b = decide p := by
  cases b with
  | true => exact (decide_eq_true (h.1 rfl)).symm
  | false => exact (decide_eq_false (fun hp => by have := h.2 hp; cases this)).symm
/-- A minute is a start exactly if the level is reached at every minute from it on, until the segment's end. -/
theorem start_iff {hi : Bool} {f : ForecastD} {d : ChartD} {i : Int} {s : ShipD} {t : Int} (h1 : fcB f.mean f.parts f.surges = true) (h2 : sailB d i s = true) :
    startB hi f d i s t = true ↔ 0 ≤ t ∧ t + minOn d i s ≤ 2880 ∧ ∀ j : Int, t ≤ j → j ≤ t + minOn d i s → levForI d i s ≤ endI hi f.mean f.parts f.surges j := by
  obtain ⟨n0, n1⟩ := minOn_bnd h2
  have e : wetL hi f.mean f.parts f.surges (levForI d i s) = ofMarks (wetF hi f.mean f.parts f.surges (levForI d i s)) 2881 := if_pos h1
  have hw : WOk (wetL hi f.mean f.parts f.surges (levForI d i s)) := by rw [e]; exact (ofMarks_spec _ 2881 (by omega)).1
  unfold startB
  rw [startsL_ok h1 h2, has_iff]
  unfold shrinkL
  rw [if_pos ⟨hw.to, inB_mk (by omega) (by omega)⟩, shr_has hw (by omega)]
  constructor
  · intro h
    have a := (wet_at h1).1 (h t (by omega) (by omega))
    have b := (wet_at h1).1 (h (t + minOn d i s) (by omega) (by omega))
    exact ⟨a.1, b.2.1, fun j hj1 hj2 => ((wet_at h1).1 (h j hj1 hj2)).2.2⟩
  · rintro ⟨t0, t1, h⟩ j hj1 hj2
    exact (wet_at h1).2 ⟨by omega, by omega, h j hj1 hj2⟩
/-- The ship with another draught. -/
def withDr (s : ShipD) (x : Int) : ShipD := { s with draught := x }
/-- The greatest draught from x down to 100 at which p holds, or 0. -/
def greatest (p : Int → Bool) : Nat → Int
  | 0 => 0
  | k + 1 => if p (99 + ((k + 1 : Nat) : Int)) = true then 99 + ((k + 1 : Nat) : Int) else greatest p k
def draughtI (f : ForecastD) (d : ChartD) (i : Int) (s : ShipD) (t : Int) : Int := if fcB f.mean f.parts f.surges = true ∧ sailB d i s = true then greatest (fun x => startB false f d i (withDr s x) t) 1901 else 0
theorem starts_len (hi : Bool) (f : ForecastD) (d : ChartD) (i : Int) (s : ShipD) : (startsL hi f d i s).length ≤ 2881 := by
  unfold startsL
  split
  · unfold shrinkL
    split
    · exact Nat.le_trans (shrW_len _ _) (wetL_len _ _ _ _ _)
    · simp
  · simp
end Go.Proofs.Ytpimcbhjkednpaa
namespace Go.Proofs.Ytpimcbhjkednpaa
set_option maxRecDepth 100000
/-- How many of the first k numbers are marked. -/
def cntB (p : Nat → Bool) : Nat → Int
  | 0 => 0
  | k + 1 => cntB p k + (if p k = true then 1 else 0)
theorem cntB_mono {p q : Nat → Bool} (h : ∀ j, p j = true → q j = true) : ∀ k, cntB p k ≤ cntB q k := by
  intro k
  induction k with
  | zero => exact Int.le_refl _
  | succ k ih =>
    unfold cntB
    cases hp : p k with
    | false => rw [if_neg (by simp)]; split <;> omega
    | true => rw [if_pos rfl, if_pos (h k hp)]; omega
theorem cntB_congr {p q : Nat → Bool} : ∀ k, (∀ j, j < k → p j = q j) → cntB p k = cntB q k := by
  intro k
  induction k with
  | zero => intro _; rfl
  | succ k ih =>
    intro h
    unfold cntB
    rw [ih (fun j hj => h j (by omega)), h k (by omega)]
theorem cntB_yes {p : Nat → Bool} {a : Nat} : ∀ n, (∀ j, a ≤ j → j < a + n → p j = true) → cntB p (a + n) = cntB p a + (n : Int) := by
  intro n
  induction n with
  | zero => intro _; simp
  | succ n ih =>
    intro h
    rw [show a + (n + 1) = (a + n) + 1 by omega]
    show cntB p (a + n) + (if p (a + n) = true then 1 else 0) = _
    rw [if_pos (h (a + n) (by omega) (by omega)), ih (fun j h1 h2 => h j h1 (by omega))]
    omega
theorem cntB_no {p : Nat → Bool} {a : Nat} : ∀ n, (∀ j, a ≤ j → j < a + n → p j = false) → cntB p (a + n) = cntB p a := by
  intro n
  induction n with
  | zero => intro _; simp
  | succ n ih =>
    intro h
    rw [show a + (n + 1) = (a + n) + 1 by omega]
    show cntB p (a + n) + (if p (a + n) = true then 1 else 0) = _
    rw [if_neg (by rw [h (a + n) (by omega) (by omega)]; simp), ih (fun j h1 h2 => h j h1 (by omega))]
    omega
/-- The sum of valid windows is the number of their minutes. -/
theorem sum_cnt (l : List WindowD) : WOk l → ∀ K : Nat, (∀ y ∈ l, y.tt < (K : Int)) → sumW l = cntB (fun j => hasB l (j : Int)) K := by
  refine snoc_ind (P := fun l => WOk l → ∀ K : Nat, (∀ y ∈ l, y.tt < (K : Int)) → sumW l = cntB (fun j => hasB l (j : Int)) K) (fun _ K _ => ?_) (fun l x ih hw K hK => ?_) l
  · have := cntB_no (p := fun j => hasB [] (j : Int)) (a := 0) K (fun j _ _ => rfl)
    rw [Nat.zero_add] at this
    rw [this]
    rfl
  · obtain ⟨x0, x1, x2⟩ := hw.last
    have hxk := hK x (by simp)
    have ha : ∀ y ∈ l, y.tt + 1 < x.fr := fun y hy => hw.ahead hy
    have e1 := ih hw.init x.fr.toNat (fun y hy => by have := ha y hy; omega)
    have hin : ∀ j : Nat, hasB (l ++ [x]) (j : Int) = true ↔ Has l (j : Int) ∨ (x.fr ≤ j ∧ j ≤ x.tt) := fun j => by rw [has_iff, has_append, has_one]
    have e2 : cntB (fun j => hasB (l ++ [x]) (j : Int)) x.fr.toNat = cntB (fun j => hasB l (j : Int)) x.fr.toNat := by
      refine cntB_congr _ (fun j hj => ?_)
      cases hb : hasB l (j : Int) with
      | true => exact (hin j).2 (.inl ((has_iff _ _).1 hb))
      | false =>
        cases hc : hasB (l ++ [x]) (j : Int) with
        | false => rfl
        | true =>
          rcases (hin j).1 hc with h | h
          · rw [(has_iff _ _).2 h] at hb; cases hb
          · omega
    have e3 := cntB_yes (p := fun j => hasB (l ++ [x]) (j : Int)) (a := x.fr.toNat) (x.tt - x.fr + 1).toNat (fun j h1 h2 => (hin j).2 (.inr ⟨by omega, by omega⟩))
    have e4 := cntB_no (p := fun j => hasB (l ++ [x]) (j : Int)) (a := x.fr.toNat + (x.tt - x.fr + 1).toNat) (K - (x.fr.toNat + (x.tt - x.fr + 1).toNat)) (fun j h1 h2 => by
      show hasB (l ++ [x]) (j : Int) = false
      cases hc : hasB (l ++ [x]) (j : Int) with
      | false => rfl
      | true =>
        rcases (hin j).1 hc with ⟨y, hy, y1, y2⟩ | h
        · have := ha y hy; omega
        · omega)
    rw [show x.fr.toNat + (x.tt - x.fr + 1).toNat + (K - (x.fr.toNat + (x.tt - x.fr + 1).toNat)) = K by omega] at e4
    rw [sumW_snoc, e1, e4, e3, e2]
    omega
theorem sum_mono {a b : List WindowD} (ha : WOk a) (hb : WOk b) (h : ∀ m, Has a m → Has b m) : sumW a ≤ sumW b := by
  rw [sum_cnt a ha 2881 (fun y hy => by have := (ha.1 y hy).2.2; omega), sum_cnt b hb 2881 (fun y hy => by have := (hb.1 y hy).2.2; omega)]
  exact cntB_mono (fun j hj => (has_iff _ _).2 (h _ ((has_iff _ _).1 hj))) _
theorem starts_wok (hi : Bool) (f : ForecastD) (d : ChartD) (i : Int) (s : ShipD) : WOk (startsL hi f d i s) := by
  by_cases h : fcB f.mean f.parts f.surges = true ∧ sailB d i s = true
  · obtain ⟨h1, h2⟩ := h
    obtain ⟨n0, n1⟩ := minOn_bnd h2
    have e : wetL hi f.mean f.parts f.surges (levForI d i s) = ofMarks (wetF hi f.mean f.parts f.surges (levForI d i s)) 2881 := if_pos h1
    have hw : WOk (wetL hi f.mean f.parts f.surges (levForI d i s)) := by rw [e]; exact (ofMarks_spec _ 2881 (by omega)).1
    rw [startsL_ok h1 h2]
    unfold shrinkL
    rw [if_pos ⟨hw.to, inB_mk (by omega) (by omega)⟩]
    exact shr_ok hw (by omega)
  · rw [show startsL hi f d i s = [] from if_neg h]
    exact WOk.nil
theorem fc_ends {f : ForecastD} {t : Int} (hf : fcB f.mean f.parts f.surges = true) (h0 : 0 ≤ t) (h1 : t ≤ 2880) : endI false f.mean f.parts f.surges t ≤ endI true f.mean f.parts f.surges t := by
  have ha : sAt f.mean f.parts f.surges t = true := by unfold sAt; rw [hf, inB_mk h0 h1]; rfl
  have hx := sAt_facts ha
  rw [endI_lo ha, endI_hi ha]
  omega
/-- A sure start is an open one. -/
theorem sure_open {f : ForecastD} {d : ChartD} {i : Int} {s : ShipD} {t : Int} (h : startB false f d i s t = true) : startB true f d i s t = true := by
  by_cases hc : fcB f.mean f.parts f.surges = true ∧ sailB d i s = true
  · obtain ⟨h1, h2⟩ := hc
    obtain ⟨t0, t1, hl⟩ := (start_iff h1 h2).1 h
    exact (start_iff h1 h2).2 ⟨t0, t1, fun j hj1 hj2 => Int.le_trans (hl j hj1 hj2) (fc_ends h1 (by omega) (by omega))⟩
  · unfold startB at h
    rw [show startsL false f d i s = [] from if_neg hc] at h
    cases h
theorem count_starts (f : ForecastD) (d : ChartD) (i : Int) (s : ShipD) : countI (startsL false f d i s) ≤ countI (startsL true f d i s) := by
  have ha := starts_wok false f d i s
  have hb := starts_wok true f d i s
  unfold countI
  rw [ha.to, hb.to]
  exact sum_mono ha hb (fun m hm => (has_iff _ _).1 (sure_open ((has_iff _ _).2 hm)))
/-- Another draught from 100 to 2000 changes nothing but the water that is needed. -/
theorem sail_dr {d : ChartD} {i : Int} {s : ShipD} {x : Int} (h : sailB d i s = true) (x0 : 100 ≤ x) (x1 : x ≤ 2000) : sailB d i (withDr s x) = true := by
  unfold sailB at h ⊢
  simp only [Bool.and_eq_true] at h ⊢
  obtain ⟨⟨h1, h2⟩, h3⟩ := h
  obtain ⟨a1, a2, a3, -, -, a4, a5, a6, a7⟩ := shipB_true h2
  refine ⟨⟨h1, ?_⟩, h3⟩
  exact shipB_of (d := withDr s x) (b0 := true) (b1 := true) (b2 := true) (b3 := true) (b4 := true) a1 (inB_mk a2 a3) (inB_mk x0 x1) (inB_mk a4 a5) (inB_mk a6 a7)
theorem min_dr (d : ChartD) (i : Int) (s : ShipD) (x : Int) (h : sailB d i s = true) (x0 : 100 ≤ x) (x1 : x ≤ 2000) : minOn d i (withDr s x) = minOn d i s := by
  obtain ⟨h1, h2, g, hg, -⟩ := sailB_true h
  obtain ⟨k1, k2, g', hg', -⟩ := sailB_true (sail_dr h x0 x1)
  rw [hg] at hg'
  cases hg'
  rw [minOn_ok h1 h2 hg, minOn_ok k1 k2 hg]
  rfl
theorem lev_dr {d : ChartD} {i : Int} {s : ShipD} {x y : Int} (h : sailB d i s = true) (x0 : 100 ≤ x) (hxy : x ≤ y) (y1 : y ≤ 2000) : levForI d i (withDr s x) ≤ levForI d i (withDr s y) := by
  have hx := sail_dr h x0 (by omega : x ≤ 2000)
  have hy := sail_dr h (by omega : 100 ≤ y) y1
  obtain ⟨-, h2, g, hg, -⟩ := sailB_true hx
  obtain ⟨-, k2, g', hg', -⟩ := sailB_true hy
  rw [hg] at hg'
  cases hg'
  rw [levForI_ok hx hg, levForI_ok hy hg, needI_ok h2, needI_ok k2]
  unfold squatI
  rw [if_pos h2, if_pos k2]
  show x + (if s.slow = true then x.tdiv 50 else x.tdiv 20) + 50 - g.depth ≤ y + (if s.slow = true then y.tdiv 50 else y.tdiv 20) + 50 - g.depth
  split
  · rw [Int.tdiv_eq_ediv_of_nonneg (by omega), Int.tdiv_eq_ediv_of_nonneg (by omega)]; omega
  · rw [Int.tdiv_eq_ediv_of_nonneg (by omega), Int.tdiv_eq_ediv_of_nonneg (by omega)]; omega
theorem start_dr {f : ForecastD} {d : ChartD} {i : Int} {s : ShipD} {t x y : Int} (h1 : fcB f.mean f.parts f.surges = true) (h : sailB d i s = true) (x0 : 100 ≤ x) (hxy : x ≤ y) (y1 : y ≤ 2000) (hs : startB false f d i (withDr s y) t = true) : startB false f d i (withDr s x) t = true := by
  obtain ⟨t0, t1, hl⟩ := (start_iff h1 (sail_dr h (by omega) y1)).1 hs
  rw [min_dr d i s y h (by omega) y1] at t1 hl
  refine (start_iff h1 (sail_dr h x0 (by omega))).2 ⟨t0, ?_, ?_⟩
  · rw [min_dr d i s x h x0 (by omega)]; exact t1
  · rw [min_dr d i s x h x0 (by omega)]
    exact fun j hj1 hj2 => Int.le_trans (lev_dr h x0 hxy y1) (hl j hj1 hj2)
theorem greatest_bnd {p : Int → Bool} : ∀ k : Nat, (greatest p k = 0 ∨ (100 ≤ greatest p k ∧ greatest p k ≤ 99 + (k : Int) ∧ p (greatest p k) = true)) := by
  intro k
  induction k with
  | zero => exact .inl rfl
  | succ k ih =>
    unfold greatest
    split
    · rename_i h; exact .inr ⟨by omega, by omega, h⟩
    · rcases ih with h | ⟨h1, h2, h3⟩
      · exact .inl h
      · exact .inr ⟨h1, by omega, h3⟩
theorem greatest_le {p : Int → Bool} {x : Int} (x0 : 100 ≤ x) (hp : p x = true) : ∀ k : Nat, x ≤ 99 + (k : Int) → x ≤ greatest p k := by
  intro k
  induction k with
  | zero => intro h; omega
  | succ k ih =>
    intro h
    unfold greatest
    split
    · omega
    · rename_i hn
      by_cases e : x = 99 + ((k + 1 : Nat) : Int)
      · rw [← e] at hn; exact absurd hp hn
      · exact ih (by omega)
/-- The ship's own draught is at most the greatest one exactly if the minute is sure. -/
theorem sure_draught {f : ForecastD} {d : ChartD} {i : Int} {s : ShipD} {t : Int} (h1 : fcB f.mean f.parts f.surges = true) (h : sailB d i s = true) : startB false f d i s t = decide (s.draught ≤ draughtI f d i s t) := by
  obtain ⟨-, h2, -⟩ := sailB_true h
  obtain ⟨-, -, -, d0, d1, -⟩ := shipB_true h2
  have e : draughtI f d i s t = greatest (fun x => startB false f d i (withDr s x) t) 1901 := if_pos ⟨h1, h⟩
  have es : withDr s s.draught = s := rfl
  refine bool_iff ⟨fun hs => ?_, fun hd => ?_⟩
  · rw [e]
    exact greatest_le (p := fun x => startB false f d i (withDr s x) t) d0 (by show startB false f d i (withDr s s.draught) t = true; rw [es]; exact hs) 1901 (by omega)
  · rw [e] at hd
    rcases greatest_bnd (p := fun x => startB false f d i (withDr s x) t) 1901 with hg | ⟨g0, g1, g2⟩
    · omega
    · have := start_dr (x := s.draught) h1 h d0 hd (by omega) g2
      rw [es] at this
      exact this
/-- Sure is: afloat at the lower end of the band at every minute on the way. -/
theorem sure_all {f : ForecastD} {d : ChartD} {i : Int} {s : ShipD} {t : Int} (h1 : fcB f.mean f.parts f.surges = true) (h2 : sailB d i s = true) (t0 : 0 ≤ t) (t1 : t + minOn d i s ≤ 2880) :
    startB false f d i s t = true ↔ ∀ j : Int, t ≤ j → j ≤ t + minOn d i s → afloatB d i s (endI false f.mean f.parts f.surges j) = true := by
  rw [start_iff h1 h2]
  constructor
  · rintro ⟨-, -, h⟩ j hj1 hj2
    unfold afloatB
    rw [h2, decide_eq_true (h j hj1 hj2)]
    rfl
  · intro h
    refine ⟨t0, t1, fun j hj1 hj2 => ?_⟩
    have := h j hj1 hj2
    unfold afloatB at this
    simp only [Bool.and_eq_true] at this
    exact of_decide_eq_true this.2
/-- Afloat at the lower end of the band at each of the k minutes from t on. -/
def allTo (f : ForecastD) (d : ChartD) (i : Int) (s : ShipD) (t : Int) : Nat → Bool
  | 0 => true
  | k + 1 => allTo f d i s t k && afloatB d i s (endI false f.mean f.parts f.surges (t + (k : Int)))
theorem allTo_iff {f : ForecastD} {d : ChartD} {i : Int} {s : ShipD} {t : Int} : ∀ k : Nat, allTo f d i s t k = true ↔ ∀ j : Int, t ≤ j → j < t + (k : Int) → afloatB d i s (endI false f.mean f.parts f.surges j) = true := by
  intro k
  induction k with
  | zero => exact ⟨fun _ j h1 h2 => by omega, fun _ => rfl⟩
  | succ k ih =>
    show (allTo f d i s t k && afloatB d i s (endI false f.mean f.parts f.surges (t + (k : Int)))) = true ↔ _
    rw [Bool.and_eq_true, ih]
    constructor
    · rintro ⟨h, hk⟩ j h1 h2
      by_cases e : j = t + (k : Int)
      · rw [e]; exact hk
      · exact h j h1 (by omega)
    · intro h
      exact ⟨fun j h1 h2 => h j h1 (by omega), h _ (by omega) (by omega)⟩
theorem all_sure {f : ForecastD} {d : ChartD} {i : Int} {s : ShipD} {t : Int} {k : Nat} (h1 : fcB f.mean f.parts f.surges = true) (h2 : sailB d i s = true) (t0 : 0 ≤ t) (t1 : t + minOn d i s ≤ 2880) (hk : minOn d i s = (k : Int)) :
    allTo f d i s t (k + 1) = startB false f d i s t := by
  have a := allTo_iff (f := f) (d := d) (i := i) (s := s) (t := t) (k + 1)
  have b := sure_all h1 h2 t0 t1
  cases hs : startB false f d i s t with
  | true => exact a.2 (fun j hj1 hj2 => b.1 hs j hj1 (by omega))
  | false =>
    cases ha : allTo f d i s t (k + 1) with
    | false => rfl
    | true => rw [b.2 (fun j hj1 hj2 => a.1 ha j hj1 (by omega))] at hs; cases hs
theorem draught_bad {f : ForecastD} {d : ChartD} {i : Int} {s : ShipD} {t : Int} (h : fcB f.mean f.parts f.surges = false ∨ sailB d i s = false) : draughtI f d i s t = 0 := if_neg (by rintro ⟨h1, h2⟩; rcases h with h | h <;> simp_all)
end Go.Proofs.Ytpimcbhjkednpaa
namespace Go.Proofs.Ytpimcbhjkednpaa
open Go.RowKit
set_option maxRecDepth 100000
set_option maxHeartbeats 2000000 in
theorem implSquatOf (s : ShipD) (w : World) (hw : s.wf) :
    Calls Try.prog 14 #[s.val] w fun e w' => e = .returned (.int .i64 (squatI s)) ∧ Below w.heap.size w w' := by
  have B := Lib.hid (Joins.below_alloc1 w (.cells #[.string s.name, .int .i64 s.length, .int .i64 s.draught, .int .i64 s.line, .int .i64 s.tugs, .bool s.slow] 36))
  have K := Lib.hid (Blk.new w #[.string s.name, .int .i64 s.length, .int .i64 s.draught, .int .i64 s.line, .int .i64 s.tugs, .bool s.slow] 36)
  obtain ⟨t, ht⟩ : ∃ t, shipB s = t := ⟨_, rfl⟩
  have HT := Lib.hid ht
  cases t with
  | false =>
    have E := Lib.hid (show squatI s = 0 from if_neg (by rw [ht]; simp))
    clear ht
    go_enter Try.func14, Try.ntmps14
    go_wp2_with fail
    refine (implShipOk s _ hw).mono ?_
    rw [HT.out]
    rintro e w1 ⟨rfl, hb1⟩
    have B1 := Lib.hid (B.out.trans (hb1.mono B.out.size))
    clear hb1
    go_wp2
    go_ret
    exact ⟨ret_int E.out.symm, B1.out⟩
  | true =>
    obtain ⟨-, -, -, d0, d1, -⟩ := shipB_true ht
    have v1 : IntKind.i64.wrap (s.draught.tdiv 50) = s.draught.tdiv 50 := by rw [IntKind.wrap_i64, Int.tdiv_eq_ediv_of_nonneg (by omega)]; omega
    have v2 : IntKind.i64.wrap (s.draught.tdiv 20) = s.draught.tdiv 20 := by rw [IntKind.wrap_i64, Int.tdiv_eq_ediv_of_nonneg (by omega)]; omega
    have E0 : squatI s = (if s.slow = true then s.draught.tdiv 50 else s.draught.tdiv 20) := if_pos ht
    clear ht
    cases hs : s.slow with
    | true =>
      have E := Lib.hid (E0.trans (if_pos hs))
      have HSL := Lib.hid hs
      clear E0 hs
      go_enter Try.func14, Try.ntmps14
      go_wp2_with fail
      refine (implShipOk s _ hw).mono ?_
      rw [HT.out]
      rintro e w1 ⟨rfl, hb1⟩
      have K1 := K.out.below hb1
      have z2 := K1.cell 2
      have z5 := K1.cell 5
      simp at z2 z5
      rw [HSL.out] at z5
      have B1 := Lib.hid (B.out.trans (hb1.mono B.out.size))
      clear hb1 K1
      go_wp2
      go_ret
      exact ⟨ret_int E.out.symm, B1.out⟩
    | false =>
      have E := Lib.hid (E0.trans (if_neg (by rw [hs]; simp)))
      have HSL := Lib.hid hs
      clear E0 hs
      go_enter Try.func14, Try.ntmps14
      go_wp2_with fail
      refine (implShipOk s _ hw).mono ?_
      rw [HT.out]
      rintro e w1 ⟨rfl, hb1⟩
      have K1 := K.out.below hb1
      have z2 := K1.cell 2
      have z5 := K1.cell 5
      simp at z2 z5
      rw [HSL.out] at z5
      have B1 := Lib.hid (B.out.trans (hb1.mono B.out.size))
      clear hb1 K1
      go_wp2
      go_ret
      exact ⟨ret_int E.out.symm, B1.out⟩
end Go.Proofs.Ytpimcbhjkednpaa
