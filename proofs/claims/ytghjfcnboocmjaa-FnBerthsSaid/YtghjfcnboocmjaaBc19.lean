
/- What ExactFreeTimes and BerthsLaw rests on, part 19: contracts and mathematics. -/
import Derived.Test.YtghjfcnboocmjaaBc18
import Derived.Test.YtghjfcnboocmjaaBc12
import Derived.Test.YtghjfcnboocmjaaBc13
import Derived.Test.YtghjfcnboocmjaaBc11
import Derived.Deep.RegionHeld3
import Derived.Test.YtghjfcnboocmjaaBc17
import Derived.Test.YtghjfcnboocmjaaBc9
namespace Go.Proofs.Ytghjfcnboocmjaa
open Go.RowKit
set_option maxRecDepth 100000
def freeL (bs : List BerthD) (l : List StayD) (b : Int) : List WindowD := if berthsB bs = true ∧ inB b 0 ((bs.length : Int) - 1) = true then otherL (gathL (usedL l b)) else []
theorem freeL_bad {bs : List BerthD} {l : List StayD} {b : Int} (h : ¬ (berthsB bs = true ∧ inB b 0 ((bs.length : Int) - 1) = true)) : freeL bs l b = [] := if_neg h
theorem freeL_ok {bs : List BerthD} {l : List StayD} {b : Int} (h1 : berthsB bs = true) (h2 : inB b 0 ((bs.length : Int) - 1) = true) : freeL bs l b = otherL (gathL (usedL l b)) := if_pos ⟨h1, h2⟩
theorem freeL_len (bs : List BerthD) (l : List StayD) (b : Int) : (freeL bs l b).length ≤ 10000000 := by
  unfold freeL
  split
  · have h1 := otherL_len (gathL (usedL l b))
    have h2 := gathL_len (usedL l b)
    omega
  · simp
def sumTo (f : Nat → Int) : Nat → Int
  | 0 => 0
  | n + 1 => sumTo f n + f n
theorem sumTo_add (f g : Nat → Int) : ∀ n, sumTo (fun k => f k + g k) n = sumTo f n + sumTo g n
  | 0 => rfl
  | n + 1 => by
    show sumTo (fun k => f k + g k) n + (f n + g n) = (sumTo f n + f n) + (sumTo g n + g n)
    rw [sumTo_add f g n]; omega
theorem sumTo_at (b c : Int) : ∀ n : Nat, sumTo (fun k => if b = (k : Int) then c else 0) n = if 0 ≤ b ∧ b < n then c else 0
  | 0 => by rw [if_neg (by omega)]; rfl
  | n + 1 => by
    show sumTo (fun k => if b = (k : Int) then c else 0) n + (if b = (n : Int) then c else 0) = _
    rw [sumTo_at b c n]
    by_cases e : b = (n : Int)
    · rw [if_neg (by omega), if_pos e, if_pos (by omega)]; omega
    · rw [if_neg e]
      by_cases h : 0 ≤ b ∧ b < n
      · rw [if_pos h, if_pos (by omega)]; omega
      · rw [if_neg h, if_neg (by omega)]; omega
theorem sumTo_congr {f g : Nat → Int} : ∀ {n : Nat}, (∀ k, k < n → f k = g k) → sumTo f n = sumTo g n
  | 0, _ => rfl
  | n + 1, h => by
    show sumTo f n + f n = sumTo g n + g n
    rw [sumTo_congr (fun k hk => h k (by omega)), h n (by omega)]
/-- The time of all stays. -/
def sumS (l : List StayD) : Int := l.foldl (fun s x => s + x.tt - x.fr) 0
theorem sumS_next {l : List StayD} {k : Nat} {s : StayD} (h : l[k]? = some s) : sumS (l.take (k + 1)) = sumS (l.take k) + s.tt - s.fr := by
  unfold sumS
  rw [take_snoc' l k s h, List.foldl_append]
  rfl
theorem load_sums {n : Nat} {l : List StayD} (h : ∀ s ∈ l, (0 ≤ s.berth ∧ s.berth < n) ∧ timeB s = true) : ∀ k, k ≤ l.length → sumTo (fun b => loadI (l.take k) (b : Int)) n = sumS (l.take k)
  | 0, _ => by
    show sumTo (fun _ => (0 : Int)) n = 0
    have : ∀ n, sumTo (fun _ => (0 : Int)) n = 0 := fun n => by
      induction n with
      | zero => rfl
      | succ n ih => show sumTo (fun _ => (0 : Int)) n + 0 = 0; rw [ih]; rfl
    exact this n
  | k + 1, hk => by
    obtain ⟨s, hs⟩ : ∃ s, l[k]? = some s := ⟨_, List.getElem?_eq_getElem (by omega)⟩
    obtain ⟨hb, ht⟩ := h s (List.mem_of_getElem? hs)
    have e : ∀ b : Nat, b < n → loadI (l.take (k + 1)) (b : Int) = loadI (l.take k) (b : Int) + (if s.berth = (b : Int) then s.tt - s.fr else 0) := fun b _ => by
      rw [loadI_next hs, ht]
      by_cases hbb : s.berth = (b : Int)
      · rw [if_pos (by simp [hbb]), if_pos hbb]; omega
      · rw [if_neg (by simp [hbb]), if_neg hbb]; omega
    rw [sumTo_congr e, sumTo_add, load_sums h k (by omega), sumTo_at, if_pos hb, sumS_next hs]
    omega
section
variable {bs : List BerthD} {fl : List ShipD} {l : List StayD}
theorem stays_time (h : staysB bs fl l = true) : ∀ s ∈ l, (0 ≤ s.berth ∧ s.berth < bs.length) ∧ timeB s = true := by
  intro s hs
  obtain ⟨i, hi⟩ := List.getElem?_of_mem hs
  obtain ⟨h1, -⟩ := staysB_at h hi
  obtain ⟨-, hb, ⟨t1, t2, t3⟩, -⟩ := stayB_true h1
  refine ⟨hb, ?_⟩
  unfold timeB
  rw [inB_mk t1 (by omega), decide_eq_true t2, decide_eq_true t3]
  rfl
theorem stays_far (h : staysB bs fl l = true) : l.Pairwise (fun x y => x.berth = y.berth → x.tt ≤ y.fr ∨ y.tt ≤ x.fr) := by
  rw [List.pairwise_iff_getElem]
  intro i j hi hj hij he
  obtain ⟨h1, h2⟩ := staysB_at h (List.getElem?_eq_getElem hj)
  rw [List.any_eq_false] at h2
  have h3 := h2 l[i] (List.mem_take_iff_getElem.2 ⟨i, by omega, rfl⟩)
  have ti := (stayB_true (staysB_at h (List.getElem?_eq_getElem hi)).1).2.2.1
  have tj := (stayB_true h1).2.2.1
  unfold meetB at h3
  rw [he] at h3
  simp at h3
  omega
theorem used_time (h : staysB bs fl l = true) (b : Int) : ∀ x ∈ usedL l b, 0 ≤ x.fr ∧ x.fr ≤ x.tt ∧ x.tt ≤ 2880 := by
  intro x hx
  unfold usedL at hx
  obtain ⟨s, hs, rfl⟩ := List.mem_map.1 hx
  have hs := (List.mem_filter.1 hs).1
  obtain ⟨i, hi⟩ := List.getElem?_of_mem hs
  obtain ⟨-, -, ⟨t1, t2, t3⟩, -⟩ := stayB_true (staysB_at h hi).1
  show 0 ≤ s.fr ∧ s.fr ≤ s.tt - 1 ∧ s.tt - 1 ≤ 2880
  omega
theorem used_far (h : staysB bs fl l = true) (b : Int) : (usedL l b).Pairwise Far := by
  unfold usedL
  rw [List.pairwise_map]
  refine ((stays_far h).filter _).imp_of_mem ?_
  intro x y hx hy hxy
  have e1 : x.berth = b := by have := (List.mem_filter.1 hx).2; unfold atBerth at this; simp at this; exact this.1
  have e2 : y.berth = b := by have := (List.mem_filter.1 hy).2; unfold atBerth at this; simp at this; exact this.1
  rcases hxy (e1.trans e2.symm) with h | h
  · exact .inl (by show x.tt - 1 < y.fr; omega)
  · exact .inr (by show y.tt - 1 < x.fr; omega)
theorem used_sum (h : staysB bs fl l = true) (b : Int) : ∀ k, k ≤ l.length → sumW (usedL (l.take k) b) = loadI (l.take k) b
  | 0, _ => rfl
  | k + 1, hk => by
    obtain ⟨s, hs⟩ : ∃ s, l[k]? = some s := ⟨_, List.getElem?_eq_getElem (by omega)⟩
    have ht := (stays_time h s (List.mem_of_getElem? hs)).2
    have ht2 : s.fr < s.tt := (stayB_true (staysB_at h hs).1).2.2.1.2.1
    rw [usedL_next hs, loadI_next hs, ht]
    by_cases hb : s.berth = b
    · rw [if_pos (by unfold atBerth; simp [hb, ht2]), if_pos (by simp [hb]), sumW_snoc, used_sum h b k (by omega)]
      show _ + (s.tt - 1 - s.fr + 1) = _
      omega
    · rw [if_neg (by unfold atBerth; simp [hb]), if_neg (by simp [hb]), List.append_nil, used_sum h b k (by omega)]
theorem free_count (h : staysB bs fl l = true) {b : Nat} (hb : b < bs.length) : countI (freeL bs l (b : Int)) = 2881 - loadI l (b : Int) := by
  rw [freeL_ok (staysB_all h).1 (inB_mk (by omega) (by omega)), count_free (used_time h _) (used_far h _)]
  have := used_sum h (b : Int) l.length (Nat.le_refl _)
  rw [List.take_length] at this
  omega
theorem free_sums (h : staysB bs fl l = true) : sumTo (fun b => loadI l (b : Int)) bs.length = sumS l ∧ sumTo (fun b => countI (freeL bs l (b : Int))) bs.length = 2881 * (bs.length : Int) - sumS l := by
  have h1 := load_sums (stays_time h) l.length (Nat.le_refl _)
  rw [List.take_length] at h1
  refine ⟨h1, ?_⟩
  have e : sumTo (fun b => countI (freeL bs l (b : Int))) bs.length = sumTo (fun b => 2881 + -loadI l (b : Int)) bs.length := sumTo_congr (fun b hb => by rw [free_count h hb]; omega)
  have c : ∀ n : Nat, sumTo (fun _ => (2881 : Int)) n = 2881 * (n : Int) := fun n => by
    induction n with
    | zero => rfl
    | succ n ih => show sumTo (fun _ => (2881 : Int)) n + 2881 = _; rw [ih]; push_cast; omega
  have d : ∀ n : Nat, sumTo (fun b => -loadI l (b : Int)) n = -sumTo (fun b => loadI l (b : Int)) n := fun n => by
    induction n with
    | zero => rfl
    | succ n ih => show sumTo (fun b => -loadI l (b : Int)) n + -loadI l (n : Int) = -(sumTo (fun b => loadI l (b : Int)) n + loadI l (n : Int)); rw [ih]; omega
  rw [e, sumTo_add, c, d, h1]
  omega
end
/-- A stay as it was asked for. -/
def Asked (s a : StayD) : Prop := s.ship = a.ship ∧ s.fr = a.fr ∧ s.tt = a.tt
theorem findSome_some {α β : Type} {f : α → Option β} {l : List α} {b : β} (h : l.findSome? f = some b) : ∃ a ∈ l, f a = some b := by
  rw [List.findSome?_eq_some_iff] at h
  obtain ⟨l1, a, l2, rfl, ha, -⟩ := h
  exact ⟨a, by simp, ha⟩
theorem allotR_some {bs : List BerthD} {fl : List ShipD} {asks : List StayD} : ∀ {k : Nat} {done out : List StayD}, done.length + k = asks.length → (∀ (i : Nat) a s, asks[i]? = some a → done[i]? = some s → Asked s a) → allotR bs fl asks k done = some out →
    staysB bs fl out = true ∧ out.length = asks.length ∧ ∀ (i : Nat) a s, asks[i]? = some a → out[i]? = some s → Asked s a
  | 0, done, out, hl, ha, h => by
    unfold allotR at h
    split at h
    · injection h with h
      subst h
      exact ⟨by assumption, by omega, ha⟩
    · cases h
  | k + 1, done, out, hl, ha, h => by
    unfold allotR at h
    obtain ⟨a, hx⟩ : ∃ a, asks[done.length]? = some a := ⟨_, List.getElem?_eq_getElem (by omega)⟩
    rw [hx] at h
    obtain ⟨b, -, hb⟩ := findSome_some h
    split at hb
    · refine allotR_some (by simp; omega) (fun i a' s ha' hs => ?_) hb
      rw [List.getElem?_append] at hs
      split at hs
      · exact ha i a' s ha' hs
      · rename_i hi
        cases e : i - done.length with
        | zero =>
          rw [e] at hs
          simp at hs
          subst hs
          have : i = done.length := by omega
          rw [this, hx] at ha'
          injection ha' with ha'
          subst ha'
          exact ⟨rfl, rfl, rfl⟩
        | succ m => rw [e] at hs; simp at hs
    · cases hb
theorem allotO_some {bs : List BerthD} {fl : List ShipD} {asks out : List StayD} (h : allotO bs fl asks = some out) : staysB bs fl out = true ∧ out.length = asks.length ∧ ∀ (i : Nat) a s, asks[i]? = some a → out[i]? = some s → Asked s a := by
  unfold allotO at h
  split at h
  · exact allotR_some (by simp) (fun i a s _ hs => by simp at hs) h
  · cases h
end Go.Proofs.Ytghjfcnboocmjaa
namespace Go.Proofs.Ytghjfcnboocmjaa
open Go.RowKit
set_option maxRecDepth 100000
/-- Windows of one's own, over what has come since wd. -/
abbrev LivW (wd x : World) (L : List (Nat × Value × List WindowD)) : Prop := LivO 2 WindowD.cells 86 wd x L
theorem step_livW {ops : Array Oper} {o : Oper} {a : Act} {K : Act → World → Prop} {Q : Exit → Act → World → Prop} {E : Prop} {wd x : World} {L L' : List (Nat × Value × List WindowD)} (h : LivW wd x L) {τ : Nat} (τ' : Nat) {v u : Value} {l m : List WindowD} (hgd : o.guard = none) (s r : Operand)
    (ho : o.op = .call { callee := .builtin .append, args := #[s, r], argTypes := #[35, 35] }) (hs : a.eval s = v) (hr : a.eval r = u) (hv : (τ, v, l) ∈ L) (hu : SlWindow x u m) (hb : l.length + m.length ≤ 10000000)
    (hL : ∀ q ∈ L', q ∈ L ∧ q.1 ≠ τ) (hK : ∀ v' x', LivW wd x' ((τ', v', l ++ m) :: L') → K (a.put o.dst v') x') :
    if Region.wanted o (yielded ops a.tmps) = true then Oper.wp Try.prog o a x K Q else E := by
  obtain ⟨i0, hi, hz0, hz1, hz2⟩ := info_parts info_window
  exact step_livO h windowLen window_one τ' hgd s r ho hs hr Try.underlying35 hi hz0 hz1 hz2 rfl (by omega) (by omega) hv hu hb hL hK
set_option maxHeartbeats 8000000 in
theorem specFreeTimes (vb : Value) (bs : List BerthD) (v : Value) (l : List StayD) (b : Int) (w : World) (rb : SlBerth w vb bs) (h : SlStay w v l) (fb : ∀ x ∈ bs, BerthD.wf x) (fs : ∀ x ∈ l, StayD.wf x) (hn : l.length ≤ 4000000) :
    Calls Try.prog 36 #[vb, v, .int .i64 b] w (NewWindow (freeL bs l b) w) := by
  have RB := Lib.hid rb
  have FB := Lib.hid fb
  have FS := Lib.hid fs
  have HS := Lib.hid h
  have hlb := rb.1
  obtain ⟨A0, c0, rfl⟩ := rb.at
  obtain ⟨A1, c1, rfl⟩ := h.at
  clear h rb fb fs
  obtain ⟨m, hm⟩ : ∃ m, l.length = m := ⟨_, rfl⟩
  have HM := Lib.hid hm
  obtain ⟨nb, hnb⟩ : ∃ m, bs.length = m := ⟨_, rfl⟩
  have HNB := Lib.hid hnb
  rw [hm] at hn HS
  rw [hnb] at hlb RB
  try rw [hm]
  try rw [hnb]
  clear hm hnb
  obtain ⟨b1, hb1⟩ : ∃ t, berthsB bs = t := ⟨_, rfl⟩
  have H1 := Lib.hid hb1
  obtain ⟨b2, hb2⟩ : ∃ t, inB b 0 ((nb : Int) - 1) = t := ⟨_, rfl⟩
  have H2 := Lib.hid hb2
  clear hb1 hb2
  have ws : IntKind.i64.wrap ((nb : Int) - 1) = (nb : Int) - 1 := by rw [IntKind.wrap_i64]; omega
  go_enter Try.func36, Try.ntmps36
  go_wp2_with fail
  refine (specBerthsOk _ bs _ RB.out FB.out).mono ?_
  rw [H1.out]
  rintro e w1 ⟨rfl, hb1⟩
  have B1 := Lib.hid hb1
  clear hb1
  cases b1 with
  | false =>
    have E := Lib.hid (freeL_bad (l := l) (b := b) (show ¬ (berthsB bs = true ∧ _) by rw [H1.out]; simp))
    go_wp2
    go_ret
    exact ⟨_, rfl, by rw [E.out]; exact World.ownsRow_nil _ _ _ _, B1.out⟩
  | true =>
  go_wp2_with fail
  refine (l01In_any _ _ _ _).mono ?_
  rw [H2.out]
  rintro e w2 ⟨rfl, rfl⟩
  cases b2 with
  | false =>
    have E := Lib.hid (freeL_bad (bs := bs) (l := l) (b := b) (by rw [HNB.out, H2.out]; simp))
    go_wp2
    go_ret
    exact ⟨_, rfl, by rw [E.out]; exact World.ownsRow_nil _ _ _ _, B1.out⟩
  | true =>
  have E0 := Lib.hid (freeL_ok (l := l) H1.out (by rw [HNB.out]; exact H2.out))
  have L0 := Lib.hid (show LivW w1 (w1.alloc (.cells #[] 86)) [(0, .slice (some ⟨w1.heap.size, 0, none⟩) 0 0, [])] from LivO.build (LivO.nil w1) windowLen 0 [] (by simp))
  clear ws
  go_wp2
  go_loopw [7, 24] (fun q t wr => ∃ (k : Nat) (u : Value), k ≤ m ∧ t = .int .i64 (k : Int) ∧ q = u ∧ Hid (LivW w1 wr [(0, u, usedL (l.take k) b)])) (fun _ t _ => m - (intOf t).toNat)
  case atStart => exact ⟨0, _, Nat.zero_le _, rfl, rfl, L0⟩
  case round =>
    obtain ⟨k, u, hk, rfl, rfl, hL⟩ := hrel
    have BR := Lib.hid (B1.out.trans (hL.out.low.mono B1.out.size))
    have hzs := BR.out.size
    by_cases hlt : k < m
    rotate_left
    · obtain rfl : k = m := by omega
      have HO := hL.out.own _ List.mem_cons_self
      have hul := usedL_len (l.take k) b
      rw [List.length_take, HM.out] at hul
      have HSU := Lib.hid (own_sl windowLen HO (by show (usedL (l.take k) b).length ≤ _; omega))
      have E1 := Lib.hid (show usedL (l.take k) b = usedL l b by rw [List.take_of_length_le (by rw [HM.out]; omega)])
      obtain ⟨Au, cu, hu⟩ := own_form HO
      simp only at hu
      subst hu
      clear HO
      go_wp2_with fail
      refine (specGatherWindows _ (usedL (l.take k) b) _ HSU.out).mono ?_
      rintro e w3 ⟨v3, rfl, ho3, hb3⟩
      have S3 := Lib.hid (own_sl windowLen ho3 (by have := gathL_len (usedL (l.take k) b); omega))
      have B3 := Lib.hid (BR.out.trans (hb3.mono BR.out.size))
      obtain ⟨A3, c3, rfl⟩ := own_form ho3
      clear ho3 hb3
      go_wp2_with fail
      refine (specOtherWindows _ _ _ S3.out).mono ?_
      rintro e w4 ⟨v4, rfl, ho4, hb4⟩
      have O4 := Lib.hid ho4
      have B4 := Lib.hid (B3.out.trans (hb4.mono B3.out.size))
      obtain ⟨A4, c4, rfl⟩ := own_form ho4
      clear ho4 hb4
      go_wp2
      go_ret
      exact ⟨_, rfl, by rw [E0.out, ← E1.out]; exact own_lo O4.out B3.out.size, B4.out⟩
    obtain ⟨x, hx⟩ : ∃ x, l[k]? = some x := ⟨_, List.getElem?_eq_getElem (by have := HM.out; omega)⟩
    have XW := Lib.hid (FS.out x (List.mem_of_getElem? hx))
    have HN := Lib.hid (usedL_next (b := b) hx)
    have hul := usedL_len (l.take k) b
    rw [List.length_take, HM.out] at hul
    have HUL := Lib.hid hul
    rcases HS.out.2 with ⟨he, _⟩ | ⟨g, o, c', e, lpos, lcap, lc⟩
    · rw [he] at hx; simp at hx
    injection e with ea e2 e3
    subst ea
    clear e2 e3 lpos lcap hul
    obtain ⟨q0, q1, q2, q3⟩ := SlStay.cells lc k x hx
    have y0 := cell_onV q0 BR.out
    have y1 := cell_onV q1 BR.out
    have y2 := cell_onV q2 BR.out
    have y3 := cell_onV q3 BR.out
    have LB := Lib.hid (show LivW w1 (wr.alloc (.cells #[.int .i64 x.ship, .int .i64 x.berth, .int .i64 x.fr, .int .i64 x.tt] 33)) _ from LivO.mk (fun p hp => own_below (hL.out.own p hp) (Joins.below_alloc1 wr _)) hL.out.ap (hL.out.low.trans ((Joins.below_alloc1 wr _).mono hL.out.low.size)))
    clear q0 q1 q2 q3 hx lc
    cases he1 : (x.berth == b) with
    | false =>
      have E2 := Lib.hid (HN.out.trans (by rw [if_neg (by unfold atBerth; rw [he1]; simp), List.append_nil]))
      go_wp2
      go_roundw
      case rel => exact ⟨k + 1, _, by omega, by go_num, rfl, by rw [E2.out]; exact LB⟩
      case measure => simp [intOf]; omega
    | true =>
      by_cases hft : x.fr < x.tt
      · have d1 : decide (x.fr < x.tt) = true := decide_eq_true hft
        have hwt := XW.out.2.2.1
        have hwt2 := XW.out.2.2.2
        have E2 := Lib.hid (HN.out.trans (by rw [if_pos (by unfold atBerth; rw [he1, d1]; rfl)] : _ = usedL (l.take k) b ++ [winOf x]))
        have w1' : IntKind.i64.wrap (x.tt - 1) = x.tt - 1 := by
          simp [Lit.wf, IntKind.min, IntKind.max, IntKind.signed, IntKind.bits] at hwt hwt2
          rw [IntKind.wrap_i64]; omega
        have L2 := Lib.hid (show LivW w1 ((wr.alloc (.cells #[.int .i64 x.ship, .int .i64 x.berth, .int .i64 x.fr, .int .i64 x.tt] 33)).alloc (.cells #[.int .i64 x.fr, .int .i64 (x.tt - 1)] 86)) ((1, .slice (some ⟨(wr.alloc (.cells #[.int .i64 x.ship, .int .i64 x.berth, .int .i64 x.fr, .int .i64 x.tt] 33)).heap.size, 0, none⟩) 1 1, [winOf x]) :: [(0, u7, usedL (l.take k) b)]) from LivO.build LB.out windowLen 1 [winOf x] (by simp))
        have HNW := Lib.hid (own_sl windowLen (L2.out.own _ List.mem_cons_self) (by simp))
        clear hwt hwt2
        go_wp2_with (at_builtin; refine wpList_plain rfl fun K hK => wp_of_stepO (ops := #[]) rfl (step_livW L2.out (L' := []) (τ := 0) (v := u7) (u := .slice (some ⟨wr.heap.size + 1, 0, none⟩) 1 1) (l := usedL (l.take k) b) (m := [winOf x]) 0 rfl (.tmp 39) (.tmp 46) rfl rfl rfl (List.mem_cons_of_mem _ List.mem_cons_self) (by have h := HNW.out; rw [World.size_alloc] at h; exact h) (by have := HUL.out; simp; omega) (fun q hq => by cases hq) ?_); intro v5 x5 hl5; refine hK _ _ ?_; have L5 := Lib.hid hl5; clear hl5)
        go_roundw
        case rel => exact ⟨k + 1, _, by omega, by go_num, rfl, by rw [E2.out]; exact L5⟩
        case measure => simp [intOf]; omega
      · have d1 : decide (x.fr < x.tt) = false := decide_eq_false hft
        have E2 := Lib.hid (HN.out.trans (by rw [if_neg (by unfold atBerth; rw [d1]; simp), List.append_nil]))
        go_wp2
        go_roundw
        case rel => exact ⟨k + 1, _, by omega, by go_num, rfl, by rw [E2.out]; exact LB⟩
        case measure => simp [intOf]; omega
end Go.Proofs.Ytghjfcnboocmjaa
