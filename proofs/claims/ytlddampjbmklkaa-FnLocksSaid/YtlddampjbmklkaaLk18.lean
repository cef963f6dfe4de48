
/- What LocksLaw rests on, part 18: contracts and mathematics. -/
import Derived.Test.YtlddampjbmklkaaLk11
import Derived.Test.YtlddampjbmklkaaLk15
import Derived.Test.YtlddampjbmklkaaLk14
import Derived.Test.YtlddampjbmklkaaLk3
import Derived.Test.YtlddampjbmklkaaLk2
import Derived.Test.YtlddampjbmklkaaLk17
import Derived.Test.YtlddampjbmklkaaLk4
import Derived.Test.YtlddampjbmklkaaLk6
namespace Go.Proofs.Ytlddampjbmklkaa
open Go.RowKit
set_option maxRecDepth 100000
theorem Liv.none1 (w : World) : Liv w w [(0, .slice none 0 0, [])] := ⟨fun p hp => by obtain rfl := mem1 hp; exact World.ownsRow_nil _ _ _ _, fun p hp q hq hne => absurd ((mem1 hp).trans (mem1 hq).symm) hne, Below.refl _ _⟩
theorem LengTo.fits {k : ChamberD} {fl : List ShipD} {s out : List Int} (h : LengTo fl s s.length out) : fitsO k fl s = (packO k out).isSome := by
  have e := h.all
  by_cases h8 : out.length ≤ 8
  · rw [if_pos h8] at e
    exact fitsO_some e
  · rw [if_neg h8] at e
    rw [fitsO_none e, packO_bad (by rw [lensB_long h8]; simp)]
    rfl
theorem LengTo.fits_no {k : ChamberD} {fl : List ShipD} {s : List Int} {i : Nat} {out : List Int} {n : Int} (h : LengTo fl s i out) (hn : s[i]? = some n) (hb : inB n 0 ((fl.length : Int) - 1) = false ∨ (s.take i).any (· == n) = true) : fitsO k fl s = false := fitsO_none (h.no hn hb)
set_option maxHeartbeats 8000000 in
theorem implCanLock (k : ChamberD) (vf vs : Value) (fl : List ShipD) (s : List Int) (w : World) (hf : SlShip w vf fl) (hs : SlInt w vs s) (hn : s.length ≤ 9000000) :
    Calls Try.prog 47 #[k.val, vf, vs] w fun e w' => e = .returned (.bool (fitsO k fl s)) ∧ Below w.heap.size w w' := by
  obtain ⟨W0, hW0⟩ : ∃ W0, W0 = (w.alloc (.cells #[.int .i64 k.length, .int .i64 k.lanes, .int .i64 k.minutes] 24)) := ⟨_, rfl⟩
  have B := Lib.hid (Joins.below_alloc1 w (.cells #[.int .i64 k.length, .int .i64 k.lanes, .int .i64 k.minutes] 24))
  have Kk := Lib.hid (Blk.new w #[.int .i64 k.length, .int .i64 k.lanes, .int .i64 k.minutes] 24)
  have HW0 := Lib.hid hW0
  rw [← hW0] at B Kk
  clear hW0
  have HF := Lib.hid (hf.below B.out)
  have HS := Lib.hid (hs.below B.out)
  have hfl := hf.1
  obtain ⟨Af, cf, rfl⟩ := hf.at
  obtain ⟨As, cs, rfl⟩ := hs.at
  have hcap : 0 < s.length → s.length ≤ cs := fun h0 => by
    rcases hs.2 with ⟨he, _⟩ | ⟨g, o, c, e, _, hc, _⟩
    · rw [he] at h0; simp at h0
    · injection e with _ _ e3; omega
  have HCAP := Lib.hid hcap
  obtain ⟨m, hm⟩ : ∃ m, s.length = m := ⟨_, rfl⟩
  have HM := Lib.hid hm
  obtain ⟨nf, hnf⟩ : ∃ m, fl.length = m := ⟨_, rfl⟩
  have HNF := Lib.hid hnf
  rw [hnf] at hfl
  rw [hm] at hn
  have L0 := Lib.hid (Liv.none1 W0)
  clear hf hs hcap
  try rw [hm]
  try rw [hnf]
  clear hm hnf
  go_enter Try.func47, Try.ntmps47
  go_wp2
  rw [← HW0.out]
  go_loopw [7, 14] (fun q t wr => ∃ (i : Nat) (u : Value) (out : List Int), i ≤ m ∧ out.length = i ∧ q = u ∧ t = .int .i64 (i : Int) ∧ Hid (LengTo fl s i out) ∧ Hid (Liv W0 wr [(0, u, out)])) (fun _ t _ => m - (intOf t).toNat)
  case atStart => exact ⟨0, _, [], Nat.zero_le _, rfl, rfl, rfl, Lib.hid (LengTo.zero _ _), L0⟩
  case round =>
    obtain ⟨i, u, out, hi, hoi, rfl, rfl, hT, hL⟩ := hrel
    have hzs := hL.out.low.size
    have BR := Lib.hid (B.out.trans (hL.out.low.mono B.out.size))
    by_cases hlt : i < m
    rotate_left
    · obtain rfl : i = m := by omega
      have HO := Lib.hid (OwnInt.sl (hL.out.own _ List.mem_cons_self) (by show out.length ≤ _; omega))
      have KR := Lib.hid (Kk.out.below hL.out.low)
      have E := Lib.hid (LengTo.fits (k := k) (by rw [HM.out]; exact hT.out))
      have vk0 : wr.cell? ⟨w.heap.size, 0, none⟩ = some (.int .i64 k.length) := KR.out.cell 0
      have vk1 : wr.cell? ⟨w.heap.size, 1, none⟩ = some (.int .i64 k.lanes) := KR.out.cell 1
      have vk2 : wr.cell? ⟨w.heap.size, 2, none⟩ = some (.int .i64 k.minutes) := KR.out.cell 2
      clear hoi
      go_wp2_with fail
      clear vk0 vk1 vk2
      refine (implPackShips k _ out _ HO.out).mono ?_
      rw [← E.out]
      rintro e w8 ⟨v8, rfl, -, hb8⟩
      have B8 := Lib.hid (BR.out.trans (hb8.mono BR.out.size))
      clear hb8
      go_wp2
      go_ret
      exact ⟨rfl, B8.out⟩
    have hcap := HCAP.out (by rw [HM.out]; omega)
    rw [HM.out] at hcap
    obtain ⟨n, hx⟩ : ∃ n, s[i]? = some n := ⟨_, List.getElem?_eq_getElem (by have := HM.out; omega)⟩
    have HX := Lib.hid hx
    have TK := Lib.hid (SlOf.takeP (k := i) (HS.out.below hL.out.low) (by have := HM.out; omega))
    rcases HS.out.2 with ⟨he, _⟩ | ⟨gl, ol, cl', e, lpos, lcap, lc⟩
    · rw [he] at hx; simp at hx
    injection e with ea e2 e3
    subst ea
    clear e2 e3 lpos lcap
    have yx := cell_onV (SlInt.cells lc i n hx) hL.out.low
    clear lc hx
    obtain ⟨b1, hb1⟩ : ∃ b, inB n 0 ((nf : Int) - 1) = b := ⟨_, rfl⟩
    have Hb1 := Lib.hid hb1
    obtain ⟨b2, hb2⟩ : ∃ b, (s.take i).any (· == n) = b := ⟨_, rfl⟩
    have Hb2 := Lib.hid hb2
    have CH := Lib.hid (fun (v : Value) (w : World) (h : SlInt w v (s.take i)) => by have := contains_any v (s.take i) n w h; rw [hb2] at this; exact this)
    clear hb1 hb2
    go_wp2_with fail
    refine (isIndex_any _ _ _).mono ?_
    rw [Hb1.out]
    rintro e w3 ⟨rfl, rfl⟩
    cases b1 with
    | false =>
      have E := Lib.hid (hT.out.fits_no (k := k) HX.out (.inl (by rw [HNF.out]; exact Hb1.out)))
      go_wp2
      go_ret
      exact ⟨ret_bool E.out.symm, BR.out⟩
    | true =>
    go_wp2_with fail
    refine (CH.out _ _ TK.out).mono ?_
    rintro e w3 ⟨rfl, rfl⟩
    cases b2 with
    | true =>
      have E := Lib.hid (hT.out.fits_no (k := k) HX.out (.inr Hb2.out))
      go_wp2
      go_ret
      exact ⟨ret_bool E.out.symm, BR.out⟩
    | false =>
    have hin := of_decide_eq_true (show decide (0 ≤ n ∧ n ≤ (nf : Int) - 1) = true from Hb1.out)
    obtain ⟨j, rfl⟩ : ∃ j : Nat, n = (j : Int) := ⟨n.toNat, by omega⟩
    obtain ⟨x, hx⟩ : ∃ x, fl[j]? = some x := ⟨_, List.getElem?_eq_getElem (by have := HNF.out; omega)⟩
    have HT := Lib.hid (hT.out.next HX.out (by rw [HNF.out]; exact Hb1.out) Hb2.out (x := x) (by simpa using hx))
    rcases HF.out.2 with ⟨he, _⟩ | ⟨gf, of, cf', e, fpos, fcap, fc⟩
    · rw [he] at hx; simp at hx
    injection e with ea e2 e3
    subst ea
    clear e2 e3 fpos fcap
    have yf := cell_onV (SlShip.cells fc j x hx).2.1 hL.out.low
    have L2 := Liv.build hL.out 1 [x.length] (by simp)
    have HNEW := Lib.hid (OwnInt.sl (L2.own _ List.mem_cons_self) (by simp))
    have L2 := Lib.hid L2
    clear fc hx yx
    go_wp2_with (at_builtin; refine wpList_plain rfl fun K hK => wp_of_step (ops := #[]) rfl (step_liv L2.out (L' := []) (τ := 0) (v := u7) (u := .slice (some ⟨wr.heap.size, 0, none⟩) 1 1) (l := out) (m := [x.length]) 0 rfl (.tmp 31) (.tmp 37) rfl rfl rfl (List.mem_cons_of_mem _ List.mem_cons_self) HNEW.out (by simp; omega) (fun q hq => by cases hq) ?_); intro v5 x5 hl5; refine hK _ _ ?_; have L5 := Lib.hid hl5; clear hl5)
    go_roundw
    case rel => exact ⟨i + 1, _, _, by omega, by simp [hoi], rfl, by go_num, HT, L5⟩
    case measure => simp [intOf]; omega
end Go.Proofs.Ytlddampjbmklkaa
namespace Go.Proofs.Ytlddampjbmklkaa
open Go.RowKit
set_option maxRecDepth 100000
theorem planFrom_app (k : ChamberD) (fl : List ShipD) : ∀ (l1 l2 : List LockD) (b : Option LockD), planFrom k fl b (l1 ++ l2) = (planFrom k fl b l1 && planFrom k fl (l1.getLast?.or b) l2)
  | [], _, _ => rfl
  | g :: l1, l2, b => by
    show (lockB k fl g b && planFrom k fl (some g) (l1 ++ l2)) = ((lockB k fl g b && planFrom k fl (some g) l1) && _)
    rw [planFrom_app k fl l1 l2 (some g), Bool.and_assoc, List.getLast?_cons]
    congr 2
    cases l1.getLast? <;> rfl
theorem lockB_start {k : ChamberD} {fl : List ShipD} {g : LockD} {b : Option LockD} (h : lockB k fl g b = true) : 0 ≤ g.start ∧ g.start ≤ 2880 := by
  unfold lockB turnB at h
  simp only [Bool.and_eq_true] at h
  exact of_decide_eq_true h.1.1
theorem lockB_turn {k : ChamberD} {fl : List ShipD} {g b : LockD} (h : lockB k fl g (some b) = true) : b.start + k.minutes ≤ g.start := by
  rw [lockB_next] at h
  simp only [Bool.and_eq_true, decide_eq_true_eq] at h
  exact h.1.2.1
/-- The starts of a valid plan: minutes, in order. -/
theorem plan_sorted {k : ChamberD} {fl : List ShipD} (hk : chamB k = true) : ∀ {l : List LockD} {b : Option LockD}, planFrom k fl b l = true →
    (∀ x ∈ l, 0 ≤ x.start ∧ x.start ≤ 2880) ∧ l.Pairwise (fun x y => x.start ≤ y.start) ∧ ∀ c, b = some c → ∀ x ∈ l, c.start ≤ x.start
  | [], _, _ => ⟨fun x hx => absurd hx (by simp), List.Pairwise.nil, fun _ _ x hx => absurd hx (by simp)⟩
  | g :: l, b, h => by
    have h : (lockB k fl g b && planFrom k fl (some g) l) = true := h
    rw [Bool.and_eq_true] at h
    obtain ⟨h1, h2, h3⟩ := plan_sorted hk h.2
    have hg := lockB_start h.1
    have hle := h3 g rfl
    refine ⟨fun x hx => ?_, List.Pairwise.cons hle h2, fun c hc x hx => ?_⟩
    · rcases List.mem_cons.1 hx with rfl | hx
      · exact hg
      · exact h1 x hx
    · subst hc
      obtain ⟨-, -, -, -, m0, -⟩ := chamB_true hk
      have ht := lockB_turn h.1
      rcases List.mem_cons.1 hx with rfl | hx
      · omega
      · have := hle x hx; omega
theorem lockPlanB_mk {k : ChamberD} {fl : List ShipD} {l : List LockD} (h1 : chamB k = true) (h2 : fleetB fl = true) (h3 : l.length ≤ 12) (h4 : planFrom k fl none l = true) : lockPlanB k fl l = true := by
  unfold lockPlanB
  rw [h1, h2, decide_eq_true h3, h4]
  rfl
theorem lockPlanB_from {k : ChamberD} {fl : List ShipD} {l : List LockD} (h : lockPlanB k fl l = true) : planFrom k fl none l = true := by
  unfold lockPlanB at h
  rw [Bool.and_eq_true] at h
  exact h.2
theorem lockPlanB_nil {k : ChamberD} {fl : List ShipD} (h1 : chamB k = true) (h2 : fleetB fl = true) : lockPlanB k fl [] = true := lockPlanB_mk h1 h2 (Nat.zero_le _) rfl
theorem last_mem {l : List LockD} {g : LockD} (h : l.getLast? = some g) : g ∈ l := List.mem_of_getLast? h
/-- The turn of a valid plan. -/
theorem next_turn {k : ChamberD} {fl : List ShipD} {l : List LockD} {up : Bool} {ready : Int} (h : lockPlanB k fl l = true) (hr : 0 ≤ ready ∧ ready ≤ 2880) :
    ready ≤ nextI k l up ready ∧ ∀ g, l.getLast? = some g → g.start + (if g.up = up then 2 * k.minutes else k.minutes) ≤ nextI k l up ready := by
  have hk := (lockPlanB_facts h).1
  obtain ⟨hs, -, -⟩ := plan_sorted hk (lockPlanB_from h)
  rw [nextI_ok hk (inB_mk hr.1 hr.2)]
  cases e : l.getLast? with
  | none => exact ⟨Int.le_refl _, fun g hg => by cases hg⟩
  | some g =>
    have hg := hs g (last_mem e)
    show ready ≤ (if inB g.start 0 2880 = true then (if g.up = up then max ready (g.start + 2 * k.minutes) else max ready (g.start + k.minutes)) else -1) ∧ _
    rw [if_pos (inB_mk hg.1 hg.2)]
    have hS : ∀ x, some g = some x → x.start + (if x.up = up then 2 * k.minutes else k.minutes) ≤ (if g.up = up then max ready (g.start + 2 * k.minutes) else max ready (g.start + k.minutes)) := by
      intro x hx
      injection hx with hx
      subst hx
      by_cases hu : g.up = up
      · rw [if_pos hu, if_pos hu]; omega
      · rw [if_neg hu, if_neg hu]; omega
    refine ⟨by split <;> omega, fun x hx => ?_⟩
    show _ ≤ (if inB g.start 0 2880 = true then (if g.up = up then max ready (g.start + 2 * k.minutes) else max ready (g.start + k.minutes)) else -1)
    rw [if_pos (inB_mk hg.1 hg.2)]
    exact hS x hx
theorem pack_one {k : ChamberD} {x : Int} (hk : chamB k = true) (h1 : 1 ≤ x ∧ x ≤ 400) (h2 : x ≤ k.length) : (packO k [x]).isSome = true := by
  obtain ⟨a1, a2, a3, a4, a5, a6⟩ := chamB_true hk
  rw [packO_ok hk (by unfold lensB; simp only [List.length_singleton, List.all_cons, List.all_nil, Bool.and_true]; rw [inB_mk h1.1 h1.2]; rfl)]
  refine (packs_iff (by omega) (fun n hn => ?_)).2 (packs_one (by omega) (by omega) h2)
  simp at hn
  omega
theorem pack_nil {k : ChamberD} (hk : chamB k = true) : (packO k []).isSome = true := by
  obtain ⟨a1, a2, a3, a4, a5, a6⟩ := chamB_true hk
  rw [packO_ok hk rfl]
  exact (packs_iff (by omega) (fun n hn => by cases hn)).2 (packs_nil (by omega) _)
theorem fits_nil {k : ChamberD} (fl : List ShipD) (hk : chamB k = true) : fitsO k fl [] = true := (fitsO_some (t := []) rfl).trans (pack_nil hk)
theorem fits_one {k : ChamberD} {fl : List ShipD} {s : Nat} {x : ShipD} (hk : chamB k = true) (hf : fleetB fl = true) (hx : fl[s]? = some x) (hl : x.length ≤ k.length) : fitsO k fl [(s : Int)] = true := by
  have hs := (List.getElem?_eq_some_iff.1 hx).1
  have hb : inB (s : Int) 0 ((fl.length : Int) - 1) = true := inB_mk (by omega) (by omega)
  obtain ⟨-, l1, l2, -⟩ := shipB_true (fleetB_ship hf hx).1
  refine (fitsO_some (t := [x.length]) ?_).trans (pack_one hk ⟨by omega, l2⟩ hl)
  unfold lensO lensFrom
  rw [if_pos ⟨hb, rfl⟩, Int.toNat_natCast, hx]
  rfl
section
variable {k : ChamberD} {fl : List ShipD} {l : List LockD} {up : Bool} {ready a : Int} {s : Nat} {x : ShipD} {t : List Int}
/-- The locking can be appended if it can be at all. -/
theorem append_fits (h : lockPlanB k fl l = true) (hf : fleetB fl = true) (hr : 0 ≤ ready ∧ ready ≤ 2880) (hx : fl[s]? = some x) (hl : x.length ≤ k.length) (h12 : l.length + 2 ≤ 12) (hm : nextI k l up ready ≤ 2880) :
    (appendO k fl l up ready [(s : Int)]).isSome = true := by
  have hk := (lockPlanB_facts h).1
  obtain ⟨t1, t2⟩ := next_turn (up := up) h hr
  obtain ⟨-, -, -, -, m0, m1⟩ := chamB_true hk
  obtain ⟨a, ha⟩ : ∃ a, nextI k l up ready = a := ⟨_, rfl⟩
  have hP : lockPlanB k fl (appendL k l up a [(s : Int)]) = true := by
    rw [ha] at t1 t2 hm
    refine lockPlanB_mk hk hf ?_ ?_
    · unfold appendL midL
      rw [List.length_append, List.length_append]
      split
      · split <;> simp <;> omega
      · simp; omega
    · unfold appendL
      rw [List.append_assoc, planFrom_app, lockPlanB_from h, Bool.true_and]
      unfold midL
      have hs := (plan_sorted hk (lockPlanB_from h)).1
      cases e : l.getLast? with
      | none =>
        show (lockB k fl ⟨a, up, [(s : Int)]⟩ none && true) = true
        rw [lockB_first, inB_mk (by show 0 ≤ a; omega) (by show a ≤ 2880; omega), fits_one hk hf hx hl]
        rfl
      | some g =>
        have hg := t2 g e
        have hgs := hs g (last_mem e)
        by_cases hu : g.up = up
        · rw [if_pos hu] at hg
          simp only [if_pos hu]
          show (lockB k fl ⟨a - k.minutes, !up, []⟩ (some g) && (lockB k fl ⟨a, up, [(s : Int)]⟩ (some ⟨a - k.minutes, !up, []⟩) && true)) = true
          rw [lockB_next, lockB_next]
          simp only
          rw [inB_mk (by omega) (by omega), inB_mk (by omega) (by omega), fits_nil fl hk, fits_one hk hf hx hl, decide_eq_true (by omega), decide_eq_true (by omega), hu]
          cases up <;> rfl
        · rw [if_neg hu] at hg
          simp only [if_neg hu]
          show (lockB k fl ⟨a, up, [(s : Int)]⟩ (some g) && true) = true
          rw [lockB_next]
          simp only
          rw [inB_mk (by omega) (by omega), fits_one hk hf hx hl, decide_eq_true (by omega), show (up != g.up) = true by cases up <;> cases hgu : g.up <;> simp_all]
          rfl
  rw [appendO_yes h (by rw [ha] at t1 ⊢; omega) (by rw [ha]; exact hP)]
  rfl
/-- What an appended locking leaves. -/
theorem append_some {n : List LockD} (h : appendO k fl l up ready [(s : Int)] = some n) : lockPlanB k fl n = true ∧ n = appendL k l up (nextI k l up ready) [(s : Int)] := by
  unfold appendO at h
  split at h
  · rename_i hh
    injection h with h
    subst h
    exact ⟨hh.2.2, rfl⟩
  · cases h
theorem append_len : (appendL k l up a t).length = l.length + (midL k l up a).length + 1 := by unfold appendL; simp; omega
theorem append_last : (appendL k l up a t).getLast? = some ⟨a, up, t⟩ := by unfold appendL; simp
theorem mid_empty : emptyN (midL k l up a) = (midL k l up a).length := by
  unfold midL
  split
  · split <;> simp [emptyN]
  · simp [emptyN]
theorem emptyN_app (a b : List LockD) : emptyN (a ++ b) = emptyN a + emptyN b := by unfold emptyN; rw [List.countP_append]; push_cast; rfl
theorem append_empty : (((appendL k l up a t).length : Int)) - l.length ≤ emptyN (appendL k l up a t) + 1 := by
  have h1 := (emptyN_le l l.length).1
  rw [List.take_length] at h1
  have h2 : 0 ≤ emptyN [(⟨a, up, t⟩ : LockD)] := by unfold emptyN; omega
  rw [append_len]
  unfold appendL
  rw [emptyN_app, emptyN_app, mid_empty]
  push_cast
  omega
theorem append_order : lockOrd (appendL k l up a t) up = lockOrd (l ++ midL k l up a) up ++ t := by
  unfold appendL lockOrd
  rw [List.flatMap_append]
  simp
theorem append_locked (hn : lockPlanB k fl (appendL k l up a [(s : Int)]) = true) : 0 ≤ lockedI (appendL k l up a [(s : Int)]) s up ∧ lockedI (appendL k l up a [(s : Int)]) s up ≤ a := by
  have hk := (lockPlanB_facts hn).1
  obtain ⟨h1, h2, -⟩ := plan_sorted hk (lockPlanB_from hn)
  have hg : (⟨a, up, [(s : Int)]⟩ : LockD) ∈ appendL k l up a [(s : Int)] := by unfold appendL; simp
  unfold lockedI
  cases e : (appendL k l up a [(s : Int)]).find? (lockHit s up) with
  | none =>
    rw [List.find?_eq_none] at e
    have := e _ hg
    simp [lockHit] at this
  | some g =>
    have hm := List.mem_of_find?_eq_some e
    refine ⟨(h1 g hm).1, ?_⟩
    unfold appendL at h2 hm
    rw [List.pairwise_append] at h2
    rcases List.mem_append.1 hm with hm | hm
    · exact h2.2.2 g hm ⟨a, up, [(s : Int)]⟩ (by simp)
    · simp at hm
      subst hm
      exact Int.le_refl _
end
end Go.Proofs.Ytlddampjbmklkaa
