
/- What AfloatLaw rests on, part 1: contracts and mathematics. -/
import Derived.Test.YtpimcbhjkednpaaAf0
import Derived.Lib.SmallJoins
import Derived.StillTailTactics
import Derived.Deep.AppendLies
import Derived.Deep.RegionLaw
namespace Go.Proofs.Ytpimcbhjkednpaa
open Go.RowKit
def perB (p : Int) : Bool := decide (4 ≤ p ∧ p ≤ 2880 ∧ p % 4 = 0)
def crest (x h : Int) : Int := 40000 * x * (h - x) / (h * h)
def waveI (n p : Int) : Int := if perB p = true then (if n % p < p / 2 then crest (n % p) (p / 2) else -crest (n % p - p / 2) (p / 2)) else 0
theorem perB_true {p : Int} (h : perB p = true) : 4 ≤ p ∧ p ≤ 2880 ∧ p % 4 = 0 := of_decide_eq_true h
theorem perB_mk {p : Int} (h : 4 ≤ p ∧ p ≤ 2880 ∧ p % 4 = 0) : perB p = true := decide_eq_true h
theorem perB_no {p : Int} (h : ¬ (4 ≤ p ∧ p ≤ 2880 ∧ p % 4 = 0)) : perB p = false := decide_eq_false h
theorem crest_num {x h : Int} (h0 : 0 ≤ x) (h1 : x ≤ h) (h2 : h ≤ 1440) : 0 ≤ 40000 * x * (h - x) ∧ 40000 * x * (h - x) ≤ 82944000000 := by
  have a : 0 ≤ x * (h - x) := Int.mul_nonneg h0 (by omega)
  have b : x * (h - x) ≤ 1440 * 1440 := Int.mul_le_mul (by omega) (by omega) (by omega) (by omega)
  have e : 40000 * x * (h - x) = 40000 * (x * (h - x)) := Int.mul_assoc _ _ _
  rw [e]; omega
theorem crest_den {h : Int} (h0 : 1 ≤ h) (h2 : h ≤ 1440) : 1 ≤ h * h ∧ h * h ≤ 2073600 := by
  have a : 1 * 1 ≤ h * h := Int.mul_le_mul h0 h0 (by omega) (by omega)
  have b : h * h ≤ 1440 * 1440 := Int.mul_le_mul h2 h2 (by omega) (by omega)
  omega
/-- 4 x (h - x) is at most h * h. -/
theorem crest_le {x h : Int} (h0 : 1 ≤ h) (x0 : 0 ≤ x) (x1 : x ≤ h) : 0 ≤ crest x h ∧ crest x h ≤ 10000 := by
  have hp : 0 < h * h := Int.mul_pos (by omega) (by omega)
  unfold crest
  refine ⟨Int.ediv_nonneg (Int.mul_nonneg (by omega) (by omega)) (Int.le_of_lt hp), ?_⟩
  refine Int.ediv_le_of_le_mul hp ?_
  have sq : 0 ≤ (h - 2 * x) * (h - 2 * x) := by
    rcases Int.le_total 0 (h - 2 * x) with g | g
    · exact Int.mul_nonneg g g
    · have := Int.mul_nonneg (a := -(h - 2 * x)) (b := -(h - 2 * x)) (by omega) (by omega)
      rwa [Int.neg_mul_neg] at this
  have e1 : (h - 2 * x) * (h - 2 * x) = h * h - 4 * (x * (h - x)) := by
    simp only [Int.mul_sub, Int.sub_mul]
    have c1 : h * (2 * x) = 2 * (x * h) := by rw [Int.mul_left_comm, Int.mul_comm h x]
    have c2 : 2 * x * h = 2 * (x * h) := Int.mul_assoc _ _ _
    have c3 : 2 * x * (2 * x) = 4 * (x * x) := by rw [Int.mul_assoc, Int.mul_left_comm x 2 x]; omega
    rw [c1, c2, c3]; omega
  have e2 : 40000 * x * (h - x) = 40000 * (x * (h - x)) := Int.mul_assoc _ _ _
  rw [e2]
  omega
theorem waveI_no {n p : Int} (h : perB p = false) : waveI n p = 0 := by unfold waveI; rw [h]; rfl
theorem waveI_up {n p : Int} (h : perB p = true) (hx : n % p < p / 2) : waveI n p = crest (n % p) (p / 2) := by unfold waveI; rw [if_pos h, if_pos hx]
theorem waveI_down {n p : Int} (h : perB p = true) (hx : ¬ n % p < p / 2) : waveI n p = -crest (n % p - p / 2) (p / 2) := by unfold waveI; rw [if_pos h, if_neg hx]
theorem waveI_le (n p : Int) : -10000 ≤ waveI n p ∧ waveI n p ≤ 10000 := by
  cases h : perB p with
  | false => rw [waveI_no h]; omega
  | true =>
    obtain ⟨a, b, c⟩ := perB_true h
    have m0 := Int.emod_nonneg n (b := p) (by omega)
    have m1 := Int.emod_lt_of_pos n (b := p) (by omega)
    by_cases hx : n % p < p / 2
    · rw [waveI_up h hx]
      have := crest_le (x := n % p) (h := p / 2) (by omega) m0 (by omega)
      omega
    · rw [waveI_down h hx]
      have := crest_le (x := n % p - p / 2) (h := p / 2) (by omega) (by omega) (by omega)
      omega
theorem tmod_neg {n p : Int} (hp : 0 < p) (h : n.tmod p < 0) : n.tmod p + p = n % p := by
  rcases Int.le_total 0 n with g | g
  · rw [Int.tmod_eq_emod_of_nonneg g] at h
    have := Int.emod_nonneg n (b := p) (by omega)
    omega
  · have m0 := Int.emod_nonneg n (b := p) (by omega)
    have m1 := Int.emod_lt_of_pos n (b := p) hp
    have t0 := Int.tmod_add_mul_tdiv n p
    have e0 := Int.emod_add_mul_ediv n p
    have tb : -p < n.tmod p := by
      have := Int.lt_tmod_of_pos n hp
      omega
    have hm : (n.tmod p + p) % p = n.tmod p + p := Int.emod_eq_of_lt (by omega) (by omega)
    rw [← hm, Int.add_emod_right]
    have : n % p = (n.tmod p + p * n.tdiv p) % p := by rw [t0]
    rw [this, Int.add_mul_emod_self_left]
theorem tmod_pos {n p : Int} (hp : 0 < p) (h : ¬ n.tmod p < 0) : n.tmod p = n % p := by
  have t0 := Int.tmod_add_mul_tdiv n p
  have tb := Int.tmod_lt_of_pos n hp
  have hm : (n.tmod p) % p = n.tmod p := Int.emod_eq_of_lt (by omega) (by omega)
  rw [← hm]
  have : n % p = (n.tmod p + p * n.tdiv p) % p := by rw [t0]
  rw [this, Int.add_mul_emod_self_left]
theorem isPeriod_any (p : Int) (w : World) : Calls Try.prog 107 #[.int .i64 p] w fun e w' => e = .returned (.bool (perB p)) ∧ w = w' := by
  by_cases h1 : 4 ≤ p
  · by_cases h2 : p ≤ 2880
    · by_cases h3 : p % 4 = 0
      · have H := Lib.hid (perB_mk ⟨h1, h2, h3⟩)
        have h4 : (p % 4 == 0) = true := by simpa using h3
        clear h3
        go_enter Try.func107, Try.ntmps107
        go_wp2
        go_ret
        exact ⟨ret_bool H.out.symm, rfl⟩
      · have H := Lib.hid (perB_no (p := p) (by omega))
        have h4 : (p % 4 == 0) = false := by simpa using h3
        clear h3
        go_enter Try.func107, Try.ntmps107
        go_wp2
        go_ret
        exact ⟨ret_bool H.out.symm, rfl⟩
    · have H := Lib.hid (perB_no (p := p) (by omega))
      have h4 : decide (p ≤ 2880) = false := decide_eq_false h2
      go_enter Try.func107, Try.ntmps107
      go_wp2
      go_ret
      exact ⟨ret_bool H.out.symm, rfl⟩
  · have H := Lib.hid (perB_no (p := p) (by omega))
    have h4 : decide (4 ≤ p) = false := decide_eq_false h1
    go_enter Try.func107, Try.ntmps107
    go_wp2
    go_ret
    exact ⟨ret_bool H.out.symm, rfl⟩
theorem remainder_any (n p : Int) (w : World) (h0 : 0 < p) (h1 : p ≤ 2880) : Calls Try.prog 108 #[.int .i64 n, .int .i64 p] w fun e w' => e = .returned (.int .i64 (n % p)) ∧ w = w' := by
  have b0 := Int.tmod_lt_of_pos n h0
  have b1 := Int.lt_tmod_of_pos n h0
  have hz : p ≠ 0 := by omega
  by_cases hs : n.tmod p < 0
  · have H := Lib.hid (tmod_neg h0 hs)
    go_enter Try.func108, Try.ntmps108
    go_wp2
    go_ret
    exact ⟨ret_int H.out, rfl⟩
  · have H := Lib.hid (tmod_pos h0 hs)
    go_enter Try.func108, Try.ntmps108
    go_wp2
    go_ret
    exact ⟨ret_int H.out, rfl⟩
theorem waveCrest_any (x h : Int) (w : World) (h0 : 1 ≤ h) (h1 : h ≤ 1440) (x0 : 0 ≤ x) (x1 : x ≤ h) : Calls Try.prog 109 #[.int .i64 x, .int .i64 h] w fun e w' => e = .returned (.int .i64 (crest x h)) ∧ w = w' := by
  obtain ⟨a0, a1⟩ := crest_num x0 x1 h1
  obtain ⟨d0, d1⟩ := crest_den h0 h1
  go_enter Try.func109, Try.ntmps109
  go_wp2
  go_ret
  exact ⟨rfl, rfl⟩
theorem implWave (n p : Int) (w : World) : Calls Try.prog 101 #[.int .i64 n, .int .i64 p] w fun e w' => e = .returned (.int .i64 (waveI n p)) ∧ w = w' := by
  cases hp : perB p with
  | false =>
    have H := Lib.hid (waveI_no (n := n) hp)
    have C := Lib.hid (isPeriod_any p w)
    rw [hp] at C
    clear hp
    go_enter Try.func101, Try.ntmps101
    go_wp2_with fail
    refine C.out.mono ?_
    rintro e w1 ⟨rfl, rfl⟩
    go_wp2
    go_ret
    exact ⟨ret_int H.out.symm, rfl⟩
  | true =>
    obtain ⟨p0, p1, p2⟩ := perB_true hp
    have C := Lib.hid (isPeriod_any p w)
    rw [hp] at C
    have HP := Lib.hid hp
    have HQ := Lib.hid p2
    have m0 := Int.emod_nonneg n (b := p) (by omega)
    have m1 := Int.emod_lt_of_pos n (b := p) (by omega)
    clear hp p2
    by_cases hx : n % p < p / 2
    · have H := Lib.hid (waveI_up HP.out hx)
      go_enter Try.func101, Try.ntmps101
      go_wp2_with fail
      refine C.out.mono ?_
      rintro e w1 ⟨rfl, rfl⟩
      go_wp2_with fail
      refine (remainder_any n p _ (by omega) p1).mono ?_
      rintro e w1 ⟨rfl, rfl⟩
      go_wp2_with fail
      refine (waveCrest_any _ _ _ (by omega) (by omega) m0 (by omega)).mono ?_
      rintro e w1 ⟨rfl, rfl⟩
      go_wp2
      go_ret
      exact ⟨ret_int H.out.symm, rfl⟩
    · have H := Lib.hid (waveI_down HP.out hx)
      have hb := crest_le (x := n % p - p / 2) (h := p / 2) (by omega) (by omega) (by omega)
      obtain ⟨hb0, hb1⟩ := hb
      go_enter Try.func101, Try.ntmps101
      go_wp2_with fail
      refine C.out.mono ?_
      rintro e w1 ⟨rfl, rfl⟩
      go_wp2_with fail
      refine (remainder_any n p _ (by omega) p1).mono ?_
      rintro e w1 ⟨rfl, rfl⟩
      go_wp2_with fail
      refine (waveCrest_any _ _ _ (by omega) (by omega) (by omega) (by omega)).mono ?_
      rintro e w1 ⟨rfl, rfl⟩
      go_wp2
      go_ret
      exact ⟨ret_int H.out.symm, rfl⟩
end Go.Proofs.Ytpimcbhjkednpaa
namespace Go.Proofs.Ytpimcbhjkednpaa
open Go.RowKit
/-- A part's numbers. -/
structure PartD where
  amp : Int
  per : Int
  pha : Int
@[reducible] def PartD.val (d : PartD) : Value := .agg #[.int .i64 d.amp, .int .i64 d.per, .int .i64 d.pha]
def partB (d : PartD) : Bool := decide (0 ≤ d.amp ∧ d.amp ≤ 1000 ∧ perB d.per = true ∧ 0 ≤ d.pha ∧ d.pha < d.per)
theorem partB_mk {d : PartD} (h : 0 ≤ d.amp ∧ d.amp ≤ 1000 ∧ perB d.per = true ∧ 0 ≤ d.pha ∧ d.pha < d.per) : partB d = true := decide_eq_true h
theorem partB_no {d : PartD} (h : ¬ (0 ≤ d.amp ∧ d.amp ≤ 1000 ∧ perB d.per = true ∧ 0 ≤ d.pha ∧ d.pha < d.per)) : partB d = false := decide_eq_false h
theorem partB_true {d : PartD} (h : partB d = true) : 0 ≤ d.amp ∧ d.amp ≤ 1000 ∧ perB d.per = true ∧ 0 ≤ d.pha ∧ d.pha < d.per := of_decide_eq_true h
def inB (x lo hi : Int) : Bool := decide (lo ≤ x ∧ x ≤ hi)
theorem inB_mk {x lo hi : Int} (h1 : lo ≤ x) (h2 : x ≤ hi) : inB x lo hi = true := decide_eq_true ⟨h1, h2⟩
theorem inB_no {x lo hi : Int} (h : x < lo ∨ hi < x) : inB x lo hi = false := decide_eq_false (by omega)
theorem implPartOk (d : PartD) (w : World) : Calls Try.prog 100 #[d.val] w fun e w' => e = .returned (.bool (partB d)) ∧ Below w.heap.size w w' := by
  obtain ⟨a, p, h⟩ := d
  by_cases h1 : 0 ≤ a
  · by_cases h2 : a ≤ 1000
    · cases hp : perB p with
      | false =>
        have H := Lib.hid (partB_no (d := ⟨a, p, h⟩) (by simp [hp]))
        have HP := Lib.hid hp
        clear hp
        go_enter Try.func100, Try.ntmps100
        go_wp2_with fail
        refine (isPeriod_any p _).mono ?_
        rintro e w1 ⟨rfl, rfl⟩
        rw [HP.out]
        go_wp2
        go_ret
        exact ⟨ret_bool H.out.symm, Joins.below_alloc1 _ _⟩
      | true =>
        by_cases h3 : 0 ≤ h
        · by_cases h4 : h < p
          · have H := Lib.hid (partB_mk (d := ⟨a, p, h⟩) ⟨h1, h2, hp, h3, h4⟩)
            have HP := Lib.hid hp
            clear hp
            go_enter Try.func100, Try.ntmps100
            go_wp2_with fail
            refine (isPeriod_any p _).mono ?_
            rintro e w1 ⟨rfl, rfl⟩
            rw [HP.out]
            go_wp2
            go_ret
            exact ⟨ret_bool H.out.symm, Joins.below_alloc1 _ _⟩
          · have H := Lib.hid (partB_no (d := ⟨a, p, h⟩) (by simp; omega))
            have h5 : decide (h < p) = false := decide_eq_false h4
            have HP := Lib.hid hp
            clear hp
            go_enter Try.func100, Try.ntmps100
            go_wp2_with fail
            refine (isPeriod_any p _).mono ?_
            rintro e w1 ⟨rfl, rfl⟩
            rw [HP.out]
            go_wp2
            go_ret
            exact ⟨ret_bool H.out.symm, Joins.below_alloc1 _ _⟩
        · have H := Lib.hid (partB_no (d := ⟨a, p, h⟩) (by simp; omega))
          have HP := Lib.hid hp
          clear hp
          go_enter Try.func100, Try.ntmps100
          go_wp2_with fail
          refine (isPeriod_any p _).mono ?_
          rintro e w1 ⟨rfl, rfl⟩
          rw [HP.out]
          go_wp2
          go_ret
          exact ⟨ret_bool H.out.symm, Joins.below_alloc1 _ _⟩
    · have H := Lib.hid (partB_no (d := ⟨a, p, h⟩) (by simp; omega))
      go_enter Try.func100, Try.ntmps100
      go_wp2
      go_ret
      exact ⟨ret_bool H.out.symm, Joins.below_alloc1 _ _⟩
  · have H := Lib.hid (partB_no (d := ⟨a, p, h⟩) (by simp; omega))
    go_enter Try.func100, Try.ntmps100
    go_wp2
    go_ret
    exact ⟨ret_bool H.out.symm, Joins.below_alloc1 _ _⟩
end Go.Proofs.Ytpimcbhjkednpaa
namespace Go.Proofs.Ytpimcbhjkednpaa
open Go.RowKit
set_option maxRecDepth 100000
@[reducible] def PartD.cells (d : PartD) : List Value := [.int .i64 d.amp, .int .i64 d.per, .int .i64 d.pha]
theorem partLen (d : PartD) : d.cells.length = 3 := rfl
def SlP : World → Value → List PartD → Prop := SlOf 3 PartD.cells
def OwnP : World → Nat → Value → List PartD → Prop := OwnOf 3 PartD.cells 124
theorem info_part : (Try.prog.info? 124).map (fun i => (i.zero, i.size, i.bytes)) = some (some (.agg #[.int .i64 0, .int .i64 0, .int .i64 0]), 3, 24) := by kernel_rfl
theorem SlP.cells {w : World} {l : List PartD} {g o : Nat} (hc : ∀ i x, l[i]? = some x → ∀ j u, (PartD.cells x)[j]? = some u → w.cell? ⟨g, o + i * 3 + j, none⟩ = some u) (i : Nat) (x : PartD) (hx : l[i]? = some x) :
    w.cell? ⟨g, o + i * 3, none⟩ = some (.int .i64 x.amp) ∧ w.cell? ⟨g, o + i * 3 + 1, none⟩ = some (.int .i64 x.per) ∧ w.cell? ⟨g, o + i * 3 + 2, none⟩ = some (.int .i64 x.pha) :=
  ⟨hc i x hx 0 _ rfl, hc i x hx 1 _ rfl, hc i x hx 2 _ rfl⟩
end Go.Proofs.Ytpimcbhjkednpaa
namespace Go.Proofs.Ytpimcbhjkednpaa
open Go.RowKit
set_option maxRecDepth 100000
def tideB (m : Int) (l : List PartD) : Bool := decide (-1000 ≤ m ∧ m ≤ 1000 ∧ l.length ≤ 4) && l.all partB
theorem tideB_true {m : Int} {l : List PartD} (h : tideB m l = true) : -1000 ≤ m ∧ m ≤ 1000 ∧ l.length ≤ 4 ∧ ∀ x ∈ l, partB x = true := by
  unfold tideB at h
  rw [Bool.and_eq_true, List.all_eq_true] at h
  have := of_decide_eq_true h.1
  exact ⟨this.1, this.2.1, this.2.2, h.2⟩
theorem tideB_mk {m : Int} {l : List PartD} (h : -1000 ≤ m ∧ m ≤ 1000 ∧ l.length ≤ 4 ∧ ∀ x ∈ l, partB x = true) : tideB m l = true := by
  unfold tideB
  rw [Bool.and_eq_true, List.all_eq_true]
  exact ⟨decide_eq_true ⟨h.1, h.2.1, h.2.2.1⟩, h.2.2.2⟩
theorem tideB_no {m : Int} {l : List PartD} (h : ¬ (-1000 ≤ m ∧ m ≤ 1000 ∧ l.length ≤ 4)) : tideB m l = false := by
  unfold tideB
  rw [decide_eq_false h]; rfl
theorem tideB_bad {m : Int} {l : List PartD} (x : PartD) (i : Nat) (hx : l[i]? = some x) (h : partB x = false) : tideB m l = false := by
  cases e : tideB m l with
  | false => rfl
  | true => rw [(tideB_true e).2.2.2 x (List.mem_of_getElem? hx)] at h; cases h
theorem bcell {W w1 : World} (hb : Below W.heap.size W w1) : (∀ b o, b < W.heap.size → w1.cell? ⟨b, o, none⟩ = W.cell? ⟨b, o, none⟩) ∧ (∀ b o, b < W.heap.size → w1.frozen? ⟨b, o, none⟩ = W.frozen? ⟨b, o, none⟩) :=
  ⟨fun b o h => hb.cell (p := ⟨b, o, none⟩) h, fun b o h => hb.frozen (p := ⟨b, o, none⟩) h⟩
theorem SlP.at {w : World} {v : Value} {l : List PartD} (h : SlP w v l) : ∃ A c, v = .slice A l.length c := SlOf.form h
theorem SlP.below {w w' : World} {v : Value} {l : List PartD} (h : SlP w v l) (hb : Below w.heap.size w w') : SlP w' v l := SlOf.below h hb
theorem OwnP.sl {w : World} {base : Nat} {v : Value} {l : List PartD} (h : OwnP w base v l) (hl : l.length ≤ 1000000000) : SlP w v l := own_sl partLen h hl
theorem set_under {w : World} {base : Nat} {v : Value} {l : List PartD} (h : OwnP w base v l) {a : Addr} (ha : a.block < base) (u : Value) : OwnP (w.setCell a u) base v l := by
  refine World.ownsRow.kept h (row := some a.block) ⟨rfl, rfl, rfl, by simp [World.setCell], fun i hi hne => Below.heap_setCell w _ u i (by rintro rfl; exact hne rfl)⟩ ?_
  cases hv : v.ownBlock with
  | none => exact .inl rfl
  | some g =>
    right
    intro e
    have := (World.ownsRow.lt h g hv).1
    have := Option.some.inj e
    omega
end Go.Proofs.Ytpimcbhjkednpaa
namespace Go.Proofs.Ytpimcbhjkednpaa
open Go.RowKit
set_option maxRecDepth 100000
theorem take_all_parts {l : List PartD} {k : Nat} (h : ∀ j x, j < k → l[j]? = some x → partB x = true) (hk : l.length ≤ k) : ∀ x ∈ l, partB x = true := by
  intro x hx
  obtain ⟨j, hj⟩ := List.getElem?_of_mem hx
  exact h j x (Nat.lt_of_lt_of_le (List.getElem?_eq_some_iff.1 hj).1 hk) hj
/-- The first k parts are valid. -/
def FirstOk (l : List PartD) (k : Nat) : Prop := ∀ j x, j < k → l[j]? = some x → partB x = true
theorem FirstOk.next {l : List PartD} {k : Nat} {x : PartD} (h : FirstOk l k) (hx : l[k]? = some x) (hp : partB x = true) : FirstOk l (k + 1) := by
  intro j y hj hy
  by_cases e : j = k
  · subst e; rw [hx] at hy; rw [← Option.some.inj hy]; exact hp
  · exact h j y (by omega) hy
set_option maxHeartbeats 1000000 in
theorem implTideOk (m : Int) (v : Value) (l : List PartD) (w : World) (h : SlP w v l) :
    Calls Try.prog 91 #[.agg #[.int .i64 m, v]] w fun e w' => e = .returned (.bool (tideB m l)) ∧ Below w.heap.size w w' := by
  have H := Lib.hid h
  have hl := h.1
  by_cases h1 : m < -1000
  · obtain ⟨A, c, rfl⟩ := h.at
    have E := Lib.hid (tideB_no (m := m) (l := l) (by omega))
    clear h
    go_enter Try.func91, Try.ntmps91
    go_wp2
    go_ret
    exact ⟨ret_bool E.out.symm, Joins.below_alloc1 _ _⟩
  · by_cases h2 : 1000 < m
    · obtain ⟨A, c, rfl⟩ := h.at
      have E := Lib.hid (tideB_no (m := m) (l := l) (by omega))
      clear h
      go_enter Try.func91, Try.ntmps91
      go_wp2
      go_ret
      exact ⟨ret_bool E.out.symm, Joins.below_alloc1 _ _⟩
    · by_cases h3 : 4 < l.length
      · obtain ⟨A, c, rfl⟩ := h.at
        have E := Lib.hid (tideB_no (m := m) (l := l) (by omega))
        clear h
        go_enter Try.func91, Try.ntmps91
        go_wp2
        go_ret
        exact ⟨ret_bool E.out.symm, Joins.below_alloc1 _ _⟩
      · obtain ⟨_, h⟩ := h
        rcases h with ⟨rfl, A, c, rfl⟩ | ⟨g, o, c, rfl, hp, hcap, hc⟩
        · have E := Lib.hid (tideB_mk (m := m) (l := []) ⟨by omega, by omega, by simp, by simp⟩)
          go_enter Try.func91, Try.ntmps91
          go_wp2
          refine wp_loop_rounds 1 ?_
          rw [rounds_succ]
          go_wp2
          go_ret
          exact ⟨ret_bool E.out.symm, Joins.below_alloc1 _ _⟩
        · have HC := Lib.hid hc
          clear hc
          go_enter Try.func91, Try.ntmps91
          go_wp2
          go_loopw [22] (fun i wr => ∃ k : Nat, k ≤ l.length ∧ i = .int .i64 k ∧ Hid (FirstOk l k) ∧ Below w.heap.size w wr) (fun i _ => l.length - (intOf i).toNat)
          case atStart => exact ⟨0, Nat.zero_le _, rfl, Lib.hid (fun j x hj => absurd hj (by omega)), Joins.below_alloc1 _ _⟩
          case round =>
            obtain ⟨k, hk, rfl, hF, hb⟩ := hrel
            by_cases hlt : k < l.length
            · obtain ⟨x, hx⟩ : ∃ x, l[k]? = some x := ⟨_, List.getElem?_eq_getElem hlt⟩
              obtain ⟨p0, p1, p2⟩ := SlP.cells HC.out k x hx
              have hg : g < w.heap.size := World.block_lt_of_cell? w ⟨g, o + k * 3, none⟩ p0
              have a0 := (hb.cell (p := ⟨g, o + k * 3, none⟩) hg).trans p0
              have a1 := (hb.cell (p := ⟨g, o + k * 3 + 1, none⟩) hg).trans p1
              have a2 := (hb.cell (p := ⟨g, o + k * 3 + 2, none⟩) hg).trans p2
              have hbs := hb.size
              have HX := Lib.hid hx
              have hb' := Lib.hid hb
              clear p0 p1 p2 hx hb
              cases hpx : partB x with
              | false =>
                have E := Lib.hid (tideB_bad (m := m) x k HX.out hpx)
                have HPX := Lib.hid hpx
                clear hpx
                go_wp2_with fail
                refine (implPartOk x _).mono ?_
                rw [HPX.out]
                rintro e w1 ⟨rfl, hb1⟩
                have HB1 := Lib.hid hb1
                clear hb1
                go_wp2
                go_ret
                refine ⟨ret_bool E.out.symm, ?_⟩
                repeat (first | exact hb'.out | refine Below.setCell ?_ (by first | omega | (simp <;> omega)) _ | refine Below.alloc ?_ (by first | omega | (simp <;> omega)) _ | refine Below.trans ?_ (HB1.out.mono (by first | omega | (simp <;> omega))))
              | true =>
                have F := Lib.hid (hF.out.next HX.out hpx)
                have HPX := Lib.hid hpx
                clear hpx
                go_wp2_with fail
                refine (implPartOk x _).mono ?_
                rw [HPX.out]
                rintro e w1 ⟨rfl, hb1⟩
                have HB1 := Lib.hid hb1
                clear hb1
                go_wp2
                go_roundw
                case rel =>
                  refine ⟨k + 1, by omega, by go_num, F, ?_⟩
                  repeat (first | exact hb'.out | refine Below.setCell ?_ (by first | omega | (simp <;> omega)) _ | refine Below.alloc ?_ (by first | omega | (simp <;> omega)) _ | refine Below.trans ?_ (HB1.out.mono (by first | omega | (simp <;> omega))))
                case measure => simp [intOf]; omega
            · have E := Lib.hid (tideB_mk (m := m) (l := l) ⟨by omega, by omega, by omega, take_all_parts hF.out (by omega)⟩)
              go_wp2
              go_ret
              exact ⟨ret_bool E.out.symm, hb⟩
end Go.Proofs.Ytpimcbhjkednpaa
namespace Go.Proofs.Ytpimcbhjkednpaa
open Go.RowKit
set_option maxRecDepth 100000
/-- What a drawn part leaves. -/
def DrawsPart (p : Nat) (w : World) (e : Ending) (w' : World) : Prop := ∃ d : PartD, e = .returned d.val ∧ partB d = true ∧ Cursor w' p ∧ w.grownBy w' (some p)
theorem pers_ok (x : Int) (h : x ∈ ([744, 720, 1440, 372, 240] : List Int)) : perB x = true := by
  simp at h
  rcases h with rfl | rfl | rfl | rfl | rfl <;> decide
set_option maxHeartbeats 1000000 in
theorem l02Part_any (p : Nat) (w : World) (hcur : Cursor w p) : Calls Try.prog 83 #[.pointer (some ⟨p, 0, none⟩)] w (DrawsPart p w) := by
  have hb0 := Joins.below_alloc1 w (.cells #[.int .i64 0, .int .i64 0, .int .i64 0] 124)
  have C := Lib.hid (l01Below_any p 300 _ (by omega) (by omega) (hcur.below hb0))
  have hp := hcur.lt
  have G0 := Lib.hid (grown_alloc w (.cells #[.int .i64 0, .int .i64 0, .int .i64 0] 124) (some p))
  have K0 := Lib.hid (Blk.new w #[.int .i64 0, .int .i64 0, .int .i64 0] 124)
  have hnp : some w.heap.size ≠ some p := by simp; omega
  have HNP := Lib.hid hnp
  clear hcur hb0 hnp
  go_enter Try.func83, Try.ntmps83
  go_wp2_with fail
  refine C.out.mono ?_
  rintro e w1 ⟨x, rfl, x0, x1, hc1, hg1⟩
  have hs1 : w.heap.size + 1 ≤ w1.heap.size := by have := hg1.size; simpa using this
  have HC1 := Lib.hid hc1
  have G1 := Lib.hid (grown_trans G0.out hg1)
  have K1 := Lib.hid (K0.out.grown hg1 HNP.out)
  clear hc1 hg1 C
  have hal := Joins.below_alloc1 w1 (.cells #[.int .i64 744, .int .i64 720, .int .i64 1440, .int .i64 372, .int .i64 240] 3)
  go_wp2_with fail
  refine (l01Pick_any p w1.heap.size 0 5 [744, 720, 1440, 372, 240] _ (by decide) (by decide) (by have := HC1.out.lt; omega) ?_ (HC1.out.below hal)).mono ?_
  · intro j y hy
    rw [World.cell?_alloc_at _ _ _ _ rfl]
    match j, hy with
    | 0, hy => simp at hy; subst hy; rfl
    | 1, hy => simp at hy; subst hy; rfl
    | 2, hy => simp at hy; subst hy; rfl
    | 3, hy => simp at hy; subst hy; rfl
    | 4, hy => simp at hy; subst hy; rfl
  rintro e w2 ⟨y, rfl, hy, hc2, hg2⟩
  have hs2 : w1.heap.size + 1 ≤ w2.heap.size := by have := hg2.size; simpa using this
  have HC2 := Lib.hid hc2
  have G2 := Lib.hid (grown_trans G1.out (grown_trans (grown_alloc w1 _ _) hg2))
  have K2 := Lib.hid ((K1.out.below hal).grown hg2 HNP.out)
  have HP := Lib.hid (pers_ok y hy)
  obtain ⟨y0, y1, y2⟩ := perB_true HP.out
  have HY2 := Lib.hid y2
  clear hc2 hg2 hy hal y2
  have hal := Joins.below_alloc1 w2 (.cells #[.int .i64 x, .int .i64 y, .int .i64 0] 124)
  have G3 := Lib.hid (grown_trans G2.out (grown_alloc w2 (.cells #[.int .i64 x, .int .i64 y, .int .i64 0] 124) (some p)))
  have J3 := Lib.hid (Blk.new w2 #[.int .i64 x, .int .i64 y, .int .i64 0] 124)
  have K3 := Lib.hid (K2.out.below hal)
  go_wp2_with fail
  refine (l01Below_any p y _ (by omega) (by omega) (HC2.out.below hal)).mono ?_
  rintro e w3 ⟨z, rfl, z0, z1, hc3, hg3⟩
  have hs3 : w2.heap.size + 1 ≤ w3.heap.size := by have := hg3.size; simpa using this
  have hp2 : p < w2.heap.size := HC2.out.lt
  have HC3 := Lib.hid hc3
  have G4 := Lib.hid (grown_trans G3.out hg3)
  have hnp2 : some w2.heap.size ≠ some p := by simp; omega
  have J4 := Lib.hid (J3.out.grown hg3 hnp2)
  have K4 := Lib.hid (K3.out.grown hg3 HNP.out)
  have b0 : w3.cell? ⟨w2.heap.size, 0, none⟩ = some (.int .i64 x) := J4.out.cell 0
  have b1 : w3.cell? ⟨w2.heap.size, 1, none⟩ = some (.int .i64 y) := J4.out.cell 1
  have b2 : w3.cell? ⟨w2.heap.size, 2, none⟩ = some (.int .i64 0) := J4.out.cell 2
  have f2 : w3.frozen? ⟨w2.heap.size, 2, none⟩ = false := J4.out.free 2
  have k0 : w3.cell? ⟨w.heap.size, 0, none⟩ = some (.int .i64 0) := K4.out.cell 0
  have k1 : w3.cell? ⟨w.heap.size, 1, none⟩ = some (.int .i64 0) := K4.out.cell 1
  have k2 : w3.cell? ⟨w.heap.size, 2, none⟩ = some (.int .i64 0) := K4.out.cell 2
  have q0 : w3.frozen? ⟨w.heap.size, 0, none⟩ = false := K4.out.free 0
  have q1 : w3.frozen? ⟨w.heap.size, 1, none⟩ = false := K4.out.free 1
  have q2 : w3.frozen? ⟨w.heap.size, 2, none⟩ = false := K4.out.free 2
  have hlt2 : w.heap.size < w2.heap.size := by omega
  have hnn : w.heap.size ≠ w2.heap.size := by omega
  have hnn' : w2.heap.size ≠ w.heap.size := by omega
  clear hc3 hg3 hal hnp2
  go_wp2
  refine bodyPost_ret (v := .agg #[.int .i64 x, .int .i64 y, .int .i64 z]) (by simp [results, Try.results83, go_sem, *]) rfl ⟨⟨x, y, z⟩, rfl, ?_, ?_, ?_⟩
  · exact partB_mk ⟨x0, by show x ≤ 1000; omega, HP.out, z0, z1⟩
  · exact (((HC3.out.set hp2 2 (.int .i64 z)).set hp 0 (.int .i64 x)).set hp 1 (.int .i64 y)).set hp 2 (.int .i64 z)
  · exact grown_setNew (grown_setNew (grown_setNew (grown_setNew G4.out (by omega) _) (Nat.le_refl _) _) (Nat.le_refl _) _) (Nat.le_refl _) _
/-- What a drawn tide leaves: a valid tide over a new list. -/
def DrawsTide (p : Nat) (w : World) (e : Ending) (w' : World) : Prop := ∃ (m : Int) (v : Value) (l : List PartD), e = .returned (.agg #[.int .i64 m, v]) ∧ tideB m l = true ∧ OwnP w' w.heap.size v l ∧ Cursor w' p ∧ w.grownBy w' (some p)
/-- What holds at each round of l02Draw. -/
def Drawing (w : World) (p b2 b3 : Nat) (m : Int) (v : Value) (l : List PartD) (wr : World) : Prop :=
  Cursor wr p ∧ w.grownBy wr (some p) ∧ Blk wr b2 #[.int .i64 0, .slice none 0 0] 25 ∧ Blk wr b3 #[.int .i64 m, v] 25 ∧ OwnP wr (b3 + 1) v l ∧ (∀ x ∈ l, partB x = true) ∧ p < b2 ∧ b2 < b3 ∧ w.heap.size ≤ b2
theorem own_over {wr w3 : World} {p B : Nat} {v : Value} {l : List PartD} (h : OwnP wr (B + 1) v l) (hg : wr.drew.grownBy w3 (some p)) (hp : p < B) : OwnP w3 (B + 1) v l := by
  refine World.ownsRow.kept (w := wr.drew) h hg ?_
  cases hv : v.ownBlock with
  | none => exact .inl rfl
  | some g =>
    right
    intro e
    have h1 := (World.ownsRow.lt h g hv).1
    have h2 := Option.some.inj e
    omega
theorem Drawing.next {w wr w3 w4 : World} {p b2 b3 : Nat} {m : Int} {v : Value} {l : List PartD} {d : PartD} {g4 cap4 : Nat} (h : Drawing w p b2 b3 m v l wr) (hg3 : wr.drew.grownBy w3 (some p)) (hc3 : Cursor w3 p) (hd : partB d = true)
    (hown4 : w4.ownsRow (b3 + 1) 124 3 (.slice (some ⟨g4, 0, none⟩) (l.length + 1) cap4) (l.length + 1) (l.flatMap PartD.cells ++ d.cells)) (hgrow4 : (w3.alloc (.cells #[.int .i64 d.amp, .int .i64 d.per, .int .i64 d.pha] 124)).grownBy w4 v.ownBlock) :
    w4.cell? ⟨b3, 1, none⟩ = some v ∧ w4.frozen? ⟨b3, 1, none⟩ = false ∧ Drawing w p b2 b3 m (.slice (some ⟨g4, 0, none⟩) (l.length + 1) cap4) (l ++ [d]) (w4.setCell ⟨b3, 1, none⟩ (.slice (some ⟨g4, 0, none⟩) (l.length + 1) cap4)) := by
  obtain ⟨hc, hg, hk, hj, how, hall, h1, h2, h3⟩ := h
  have hrow : ∀ b, v.ownBlock = some b → b3 < b := fun b hb => by have := (World.ownsRow.lt how b hb).1; omega
  have n3 : some b3 ≠ v.ownBlock := fun e => Nat.lt_irrefl _ (hrow b3 e.symm)
  have n2 : some b2 ≠ v.ownBlock := fun e => by have := hrow b2 e.symm; omega
  have hal := Joins.below_alloc1 w3 (.cells #[.int .i64 d.amp, .int .i64 d.per, .int .i64 d.pha] 124)
  have J4 := ((hj.drew.grown hg3 (by simp; omega)).below hal).grown hgrow4 n3
  have K4 := ((hk.drew.grown hg3 (by simp; omega)).below hal).grown hgrow4 n2
  refine ⟨J4.cell 1, J4.free 1, ?_, ?_, K4.other (by omega) _ _, J4.set 1 _, ?_, ?_, h1, h2, h3⟩
  · exact (((hc3.below hal).grown hgrow4 (fun b hb => by have := hrow b hb; omega))).set (by omega) _ _
  · refine grown_setNew ?_ (by omega) _
    have e1 : w.grownBy w3 (some p) := grown_trans (a := w) (b := wr.drew) ⟨hg.os, hg.tape, hg.output, hg.size, hg.block⟩ hg3
    have e2 := grown_trans e1 (grown_of_below hal (some p))
    refine ⟨hgrow4.os.trans e2.os, hgrow4.tape.trans e2.tape, hgrow4.output.trans e2.output, Nat.le_trans e2.size hgrow4.size, fun i hi hne => (hgrow4.block i (Nat.lt_of_lt_of_le hi e2.size) ?_).trans (e2.block i hi hne)⟩
    intro e
    have := hrow i e.symm
    omega
  · refine set_under ?_ (by simp) _
    show World.ownsRow _ _ _ _ _ _ _
    have e : (l ++ [d]).flatMap PartD.cells = l.flatMap PartD.cells ++ d.cells := by simp
    rw [e]
    simpa using hown4
  · intro x hx
    rw [List.mem_append] at hx
    rcases hx with hx | hx
    · exact hall x hx
    · simp at hx; rw [hx]; exact hd
set_option maxHeartbeats 2000000 in
theorem l02Draw_any (p : Nat) (w : World) (hcur : Cursor w p) : Calls Try.prog 61 #[.pointer (some ⟨p, 0, none⟩)] w (DrawsTide p w) := by
  have hb0 := Joins.below_alloc1 w (.cells #[.int .i64 0, .slice none 0 0] 25)
  have C := Lib.hid (l01Below_any p 300 _ (by omega) (by omega) (hcur.below hb0))
  have hp := hcur.lt
  have G0 := Lib.hid (grown_alloc w (.cells #[.int .i64 0, .slice none 0 0] 25) (some p))
  have K0 := Lib.hid (Blk.new w #[.int .i64 0, .slice none 0 0] 25)
  have HNP := Lib.hid (show some w.heap.size ≠ some p by simp; omega)
  obtain ⟨i0, hi, hz0, hz1, hz2⟩ := info_parts info_part
  have HI := Lib.hid (And.intro hi (And.intro hz0 (And.intro hz1 hz2)))
  clear hcur hb0 hi hz0 hz1 hz2
  go_enter Try.func61, Try.ntmps61
  go_wp2_with fail
  refine C.out.mono ?_
  rintro e w1 ⟨m, rfl, m0, m1, hc1, hg1⟩
  have hs1 : w.heap.size + 1 ≤ w1.heap.size := by have := hg1.size; simpa using this
  have hal := Joins.below_alloc1 w1 (.cells #[.int .i64 m, .slice none 0 0] 25)
  have HC1 := Lib.hid (hc1.below hal)
  have G1 := Lib.hid (grown_trans (grown_trans G0.out hg1) (grown_alloc w1 (.cells #[.int .i64 m, .slice none 0 0] 25) (some p)))
  have K1 := Lib.hid ((K0.out.grown hg1 HNP.out).below hal)
  have J1 := Lib.hid (Blk.new w1 #[.int .i64 m, .slice none 0 0] 25)
  clear hc1 hg1 hal C
  go_wp2_with fail
  refine (l01Below_any p 2 _ (by omega) (by omega) HC1.out).mono ?_
  rintro e w2 ⟨n, rfl, n0, n1, hc2, hg2⟩
  have hst : Drawing w p w.heap.size w1.heap.size m (.slice none 0 0) [] w2 := by
    refine ⟨hc2, grown_trans G1.out hg2, K1.out.grown hg2 HNP.out, J1.out.grown hg2 (by simp; omega), ⟨rfl, .inl ⟨rfl, rfl⟩⟩, by simp, hp, by omega, Nat.le_refl _⟩
  have HST := Lib.hid hst
  clear hc2 hg2 hst
  go_wp2
  go_loopw [4] (fun i wr => ∃ (k : Nat) (v : Value) (l : List PartD), l.length + k ≤ 2 ∧ i = .int .i64 k ∧ Hid (Drawing w p w.heap.size w1.heap.size m v l wr)) (fun i _ => (intOf i).toNat)
  case atStart => exact ⟨(1 + n).toNat, _, [], by simp; omega, by simp; omega, HST⟩
  case round =>
    obtain ⟨k, v, l, hlk, rfl, hD⟩ := hrel
    by_cases hk : 0 < k
    · obtain ⟨dc, dg, dk, dj, dow, dall, _⟩ := hD.out
      have j1 : wr.cell? ⟨w1.heap.size, 1, none⟩ = some v := dj.cell 1
      have P := Lib.hid (l02Part_any p wr.drew dc.drew)
      have hpb : p < w1.heap.size := by omega
      have OW := Lib.hid dow
      have DJ := Lib.hid dj
      have hi := HI.out
      have HI' := Lib.hid hi
      rcases Joins.ownsRow_forms dow with ⟨rfl, hl0⟩ | ⟨g, cap, rfl⟩
      · clear dow dj dc dg dk dall hi hl0
        go_wp2
        go_region_law (first
          | (go_simp; go_at_call 83; refine P.out.mono ?_; rintro e w3 ⟨d, rfl, hd, hc3, hg3⟩; have ow3 := Lib.hid (own_over OW.out hg3 hpb); have j3 : w3.cell? ⟨w1.heap.size, 1, none⟩ = some (.slice none 0 0) := (DJ.out.drew.grown hg3 (by simp; omega)).cell 1; have hs3 : w1.heap.size + 1 ≤ w3.heap.size := Nat.le_trans DJ.out.lt hg3.size; have j4 : (w3.alloc (.cells #[.int .i64 d.amp, .int .i64 d.per, .int .i64 d.pha] 124)).cell? ⟨w1.heap.size, 1, none⟩ = some (.slice none 0 0) := (World.cell?_alloc_lt w3 _ ⟨w1.heap.size, 1, none⟩ hs3).trans j3; have HG3 := Lib.hid hg3; have HC3 := Lib.hid hc3; have HD3 := Lib.hid hd; clear hg3 hc3 hd)
          | (refine step_append_lies _ (by rfl) _ _ _ (by rfl) (w1.heap.size + 1) 124 i0 _ 3 24 Try.underlying23 HI'.out.1 HI'.out.2.1 HI'.out.2.2.1 HI'.out.2.2.2 rfl (by omega) (.slice none 0 0) l.length (l.flatMap PartD.cells) (by rfl) (World.ownsRow.alloc ow3.out _) ⟨w3.heap.size, 0, none⟩ 1 1 d.cells (by rfl) (by rfl) (World.news_of_block (heap_alloc_new w3 _)) (by simp [Value.oneCell']) (by omega) (by unfold maxLen; omega) (by omega) (by simp; omega) _ rfl ?_; intro g4 cap4 w4 hown4 hgrow4 _ _; obtain ⟨t1, t2, t3⟩ := hD.out.next HG3.out HC3.out HD3.out hown4 hgrow4; have T3 := Lib.hid t3; clear hown4 hgrow4 t3))
        all_goals
          go_wp2
          go_roundw
          case rel => exact ⟨k - 1, _, l ++ [d], by simp; omega, by go_num, T3⟩
          case measure => simp [intOf]; omega
      · clear dow dj dc dg dk dall hi
        go_wp2
        go_region_law (first
          | (go_simp; go_at_call 83; refine P.out.mono ?_; rintro e w3 ⟨d, rfl, hd, hc3, hg3⟩; have ow3 := Lib.hid (own_over OW.out hg3 hpb); have j3 : w3.cell? ⟨w1.heap.size, 1, none⟩ = some (.slice (some ⟨g, 0, none⟩) l.length cap) := (DJ.out.drew.grown hg3 (by simp; omega)).cell 1; have hs3 : w1.heap.size + 1 ≤ w3.heap.size := Nat.le_trans DJ.out.lt hg3.size; have j4 : (w3.alloc (.cells #[.int .i64 d.amp, .int .i64 d.per, .int .i64 d.pha] 124)).cell? ⟨w1.heap.size, 1, none⟩ = some (.slice (some ⟨g, 0, none⟩) l.length cap) := (World.cell?_alloc_lt w3 _ ⟨w1.heap.size, 1, none⟩ hs3).trans j3; have HG3 := Lib.hid hg3; have HC3 := Lib.hid hc3; have HD3 := Lib.hid hd; clear hg3 hc3 hd)
          | (refine step_append_lies _ (by rfl) _ _ _ (by rfl) (w1.heap.size + 1) 124 i0 _ 3 24 Try.underlying23 HI'.out.1 HI'.out.2.1 HI'.out.2.2.1 HI'.out.2.2.2 rfl (by omega) (.slice (some ⟨g, 0, none⟩) l.length cap) l.length (l.flatMap PartD.cells) (by rfl) (World.ownsRow.alloc ow3.out _) ⟨w3.heap.size, 0, none⟩ 1 1 d.cells (by rfl) (by rfl) (World.news_of_block (heap_alloc_new w3 _)) (by simp [Value.oneCell']) (by omega) (by unfold maxLen; omega) (by omega) (by simp; omega) _ rfl ?_; intro g4 cap4 w4 hown4 hgrow4 _ _; obtain ⟨t1, t2, t3⟩ := hD.out.next HG3.out HC3.out HD3.out hown4 hgrow4; have T3 := Lib.hid t3; clear hown4 hgrow4 t3))
        all_goals
          go_wp2
          go_roundw
          case rel => exact ⟨k - 1, _, l ++ [d], by simp; omega, by go_num, T3⟩
          case measure => simp [intOf]; omega
    · obtain ⟨dc, dg, dk, dj, dow, dall, _⟩ := hD.out
      obtain ⟨A, c, rfl⟩ := own_form dow
      have j0 : wr.cell? ⟨w1.heap.size, 0, none⟩ = some (.int .i64 m) := dj.cell 0
      have j1 : wr.cell? ⟨w1.heap.size, 1, none⟩ = some (.slice A l.length c) := dj.cell 1
      have k0 : wr.cell? ⟨w.heap.size, 0, none⟩ = some (.int .i64 0) := dk.cell 0
      have k1 : wr.cell? ⟨w.heap.size, 1, none⟩ = some (.slice none 0 0) := dk.cell 1
      have f0 : wr.frozen? ⟨w.heap.size, 0, none⟩ = false := dk.free 0
      have f1 : wr.frozen? ⟨w.heap.size, 1, none⟩ = false := dk.free 1
      have DOW := Lib.hid dow
      have DC := Lib.hid dc
      have DG := Lib.hid dg
      have TB := Lib.hid (tideB_mk (m := m) (l := l) ⟨by omega, by omega, by omega, dall⟩)
      clear dow dc dg dk dj dall hD
      go_wp2
      refine bodyPost_ret (v := .agg #[.int .i64 m, .slice A l.length c]) (by simp [results, Try.results61, go_sem, *]) rfl ⟨m, _, l, rfl, TB.out, ?_, ?_, ?_⟩
      · exact Joins.ownsRow_le (set_under (set_under DOW.out (by simp; omega) _) (by simp; omega) _) (by omega)
      · exact (DC.out.set hp 0 _).set hp 1 _
      · exact grown_setNew (grown_setNew DG.out (Nat.le_refl _) _) (Nat.le_refl _) _
end Go.Proofs.Ytpimcbhjkednpaa
