
/- What LocksLaw rests on, part 17: contracts and mathematics. -/
import Derived.Test.YtlddampjbmklkaaLk15
import Derived.Test.YtlddampjbmklkaaLk13
import Derived.Test.YtlddampjbmklkaaLk6
namespace Go.Proofs.Ytlddampjbmklkaa
open Go.RowKit
set_option maxRecDepth 100000
/-- What comes ahead of the new locking: one without ships, if the last went the same way. -/
def midL (k : ChamberD) (l : List LockD) (up : Bool) (a : Int) : List LockD := match l.getLast? with
  | some g => if g.up = up then [⟨a - k.minutes, !up, []⟩] else []
  | none => []
def appendL (k : ChamberD) (l : List LockD) (up : Bool) (a : Int) (s : List Int) : List LockD := l ++ midL k l up a ++ [⟨a, up, s⟩]
def appendO (k : ChamberD) (fl : List ShipD) (l : List LockD) (up : Bool) (ready : Int) (s : List Int) : Option (List LockD) :=
  if lockPlanB k fl l = true ∧ 0 ≤ nextI k l up ready ∧ lockPlanB k fl (appendL k l up (nextI k l up ready) s) = true then some (appendL k l up (nextI k l up ready) s) else none
theorem appendO_no {k : ChamberD} {fl : List ShipD} {l : List LockD} {up : Bool} {ready : Int} {s : List Int} (h : ¬ (lockPlanB k fl l = true ∧ 0 ≤ nextI k l up ready ∧ lockPlanB k fl (appendL k l up (nextI k l up ready) s) = true)) : appendO k fl l up ready s = none := if_neg h
theorem appendO_yes {k : ChamberD} {fl : List ShipD} {l : List LockD} {up : Bool} {ready : Int} {s : List Int} (h1 : lockPlanB k fl l = true) (h2 : 0 ≤ nextI k l up ready) (h3 : lockPlanB k fl (appendL k l up (nextI k l up ready) s) = true) : appendO k fl l up ready s = some (appendL k l up (nextI k l up ready) s) := if_pos ⟨h1, h2, h3⟩
theorem midL_none {k : ChamberD} {rows : List LockR} {up : Bool} {a : Int} (h : rows.length = 0) : midL k (rows.map LockR.d) up a = [] := by rw [List.eq_nil_of_length_eq_zero h]; rfl
theorem midL_last {k : ChamberD} {rows : List LockR} {up : Bool} {a : Int} {z : LockR} (h : rows[rows.length - 1]? = some z) : midL k (rows.map LockR.d) up a = if z.up = up then [⟨a - k.minutes, !up, []⟩] else [] := by
  have e : (rows.map LockR.d).getLast? = some z.d := by rw [List.getLast?_eq_getElem?, List.length_map, List.getElem?_map, h]; rfl
  unfold midL
  rw [e]
  rfl
theorem nextI_le {k : ChamberD} {l : List LockD} {up : Bool} {ready : Int} : nextI k l up ready ≤ 3120 := by
  by_cases h : chamB k = true ∧ inB ready 0 2880 = true
  · rw [nextI_ok h.1 h.2]
    obtain ⟨-, -, -, -, m0, m1⟩ := chamB_true h.1
    have hr : 0 ≤ ready ∧ ready ≤ 2880 := of_decide_eq_true h.2
    cases l.getLast? with
    | none => show ready ≤ 3120; omega
    | some g =>
      show (if inB g.start 0 2880 = true then (if g.up = up then max ready (g.start + 2 * k.minutes) else max ready (g.start + k.minutes)) else -1) ≤ 3120
      by_cases hg : inB g.start 0 2880 = true
      · have hg' : 0 ≤ g.start ∧ g.start ≤ 2880 := of_decide_eq_true hg
        rw [if_pos hg]
        split <;> omega
      · rw [if_neg hg]; omega
  · rw [nextI_bad h]; omega
theorem lockPlanB_facts {k : ChamberD} {fl : List ShipD} {l : List LockD} (h : lockPlanB k fl l = true) : chamB k = true ∧ l.length ≤ 12 := by
  unfold lockPlanB at h
  simp only [Bool.and_eq_true] at h
  exact ⟨h.1.1.1, of_decide_eq_true h.1.2⟩
/-- What AppendLocking leaves. -/
def NewPlan (ol : Option (List LockD)) (w : World) (e : Ending) (w' : World) : Prop := ∃ v rs, e = .returned (.tuple #[v, .bool ol.isSome]) ∧ OwnLocks w' w.heap.size v rs ∧ rs.map LockR.d = ol.getD [] ∧ Below w.heap.size w w'
theorem appendO_len (k : ChamberD) (fl : List ShipD) (l : List LockD) (up : Bool) (ready : Int) (s : List Int) : (((appendO k fl l up ready s).getD []).length : Int) + bulkD ((appendO k fl l up ready s).getD []) ≤ l.length + bulkD l + s.length + 2 := by
  have hp := bulkD_pos l
  unfold appendO
  split
  · show ((appendL k l up (nextI k l up ready) s).length : Int) + bulkD (appendL k l up (nextI k l up ready) s) ≤ _
    unfold appendL
    rw [bulkD_app, bulkD_app, List.length_append, List.length_append]
    have hm : ((midL k l up (nextI k l up ready)).length : Int) ≤ 1 ∧ bulkD (midL k l up (nextI k l up ready)) = 0 := by
      unfold midL
      split
      · split <;> simp [bulkD]
      · simp [bulkD]
    have hb : bulkD [(⟨nextI k l up ready, up, s⟩ : LockD)] = s.length := by simp [bulkD]
    rw [hb, hm.2]
    simp only [List.length_singleton]
    have := hm.1
    push_cast
    omega
  · simp [bulkD]
    omega
theorem own_none (w : World) (base : Nat) : OwnLocks w base (.slice none 0 0) [] := ⟨World.ownsRow_nil _ _ _ _, fun r hr => absurd hr (by simp), List.Pairwise.nil, fun r hr => absurd hr (by simp)⟩
set_option maxHeartbeats 16000000 in
theorem specAppendLocking (k : ChamberD) (yfl : Value) (fl : List ShipD) (yrows : Value) (rows : List LockR) (up : Bool) (rd : Int) (ysh : Value) (sh : List Int) (w : World) (rfl : SlShip w yfl fl) (rrows : RdLocks w yrows rows) (rsh : SlInt w ysh sh) (ffl : ∀ x ∈ fl, ShipD.wf x) (hn : (rows.length : Int) + bulkLock rows ≤ 4000000) (hsh : sh.length ≤ 4000000) :
    Calls Try.prog 33 #[k.val, yfl, yrows, .bool up, .int .i64 rd, ysh] w (NewPlan (appendO k fl (rows.map LockR.d) up rd sh) w) := by
  have Rfl := Lib.hid rfl
  obtain ⟨Afl, cfl, rfl⟩ := SlOf.form rfl
  clear rfl
  have Nfl := Lib.hid ffl
  clear ffl
  have Rrows := Lib.hid rrows
  obtain ⟨Arows, crows, rfl⟩ := SlOf.form rrows.1
  clear rrows
  have Rsh := Lib.hid rsh
  obtain ⟨Ash, csh, rfl⟩ := SlOf.form rsh
  clear rsh
  obtain ⟨W0, hW0⟩ : ∃ W0, W0 = (w.alloc (.cells #[.int .i64 k.length, .int .i64 k.lanes, .int .i64 k.minutes] 24)) := ⟨_, rfl⟩
  have B := Lib.hid (Joins.below_alloc1 w (.cells #[.int .i64 k.length, .int .i64 k.lanes, .int .i64 k.minutes] 24))
  have Kk := Lib.hid (Blk.new w #[.int .i64 k.length, .int .i64 k.lanes, .int .i64 k.minutes] 24)
  have HW0 := Lib.hid hW0
  rw [← hW0] at B Kk
  clear hW0
  obtain ⟨i0, hi, hz0, hz1, hz2⟩ := info_parts info_locking
  have HI := Lib.hid (And.intro hi (And.intro hz0 (And.intro hz1 hz2)))
  clear hi hz0 hz1 hz2
  have hbp := bulkLock_pos rows
  obtain ⟨l, hld⟩ : ∃ l, rows.map LockR.d = l := ⟨_, rfl⟩
  have HLD := Lib.hid hld
  rw [hld]
  obtain ⟨a, ha⟩ : ∃ a, nextI k l up rd = a := ⟨_, rfl⟩
  have HA := Lib.hid ha
  have ha2 : a ≤ 3120 := by rw [← ha]; exact nextI_le
  obtain ⟨b1, hb1⟩ : ∃ b, lockPlanB k fl l = b := ⟨_, rfl⟩
  have Hb1 := Lib.hid hb1
  clear hb1 ha hld
  obtain ⟨m, hm⟩ : ∃ m, rows.length = m := ⟨_, rfl⟩
  have HM := Lib.hid hm
  rw [hm] at Rrows hn
  try rw [hm]
  clear hm
  go_enter Try.func33, Try.ntmps33
  have vk0 : W0.cell? ⟨w.heap.size, 0, none⟩ = some (.int .i64 k.length) := Kk.out.cell 0
  have vk1 : W0.cell? ⟨w.heap.size, 1, none⟩ = some (.int .i64 k.lanes) := Kk.out.cell 1
  have vk2 : W0.cell? ⟨w.heap.size, 2, none⟩ = some (.int .i64 k.minutes) := Kk.out.cell 2
  go_wp2_with fail
  rw [← HW0.out]
  clear vk0 vk1 vk2
  refine (specNextTurn k _ rows up rd _ (Rrows.out.below B.out)).mono ?_
  rw [HLD.out, HA.out]
  rintro e w1 ⟨rfl, hb1⟩
  have B1 := Lib.hid (B.out.trans (hb1.mono B.out.size))
  have Kk_1 := Lib.hid (Kk.out.below hb1)
  clear hb1
  have vk0 : w1.cell? ⟨w.heap.size, 0, none⟩ = some (.int .i64 k.length) := Kk_1.out.cell 0
  have vk1 : w1.cell? ⟨w.heap.size, 1, none⟩ = some (.int .i64 k.lanes) := Kk_1.out.cell 1
  have vk2 : w1.cell? ⟨w.heap.size, 2, none⟩ = some (.int .i64 k.minutes) := Kk_1.out.cell 2
  go_wp2_with fail
  clear vk0 vk1 vk2
  refine (specLockPlanOk k _ fl _ rows _ (Rfl.out.below B1.out) (Rrows.out.below B1.out) Nfl.out (by rw [HM.out]; omega)).mono ?_
  rw [HLD.out, Hb1.out]
  rintro e w2 ⟨rfl, hb2⟩
  have B2 := Lib.hid (B1.out.trans (hb2.mono B1.out.size))
  have Kk_2 := Lib.hid (Kk_1.out.below hb2)
  clear hb2
  cases b1 with
  | false =>
    have E := Lib.hid (appendO_no (s := sh) (ready := rd) (up := up) (show ¬ (lockPlanB k fl l = true ∧ _) by rw [Hb1.out]; simp))
    go_wp2
    refine bodyPost_ret (v := .tuple #[.slice none 0 0, .bool false]) (by simp [results, Try.results33, go_sem]) rfl ⟨.slice none 0 0, [], by rw [E.out]; rfl, own_none _ _, by rw [E.out]; rfl, B2.out⟩
  | true =>
  by_cases ha0 : a < 0
  · have E := Lib.hid (appendO_no (k := k) (fl := fl) (l := l) (s := sh) (ready := rd) (up := up) (by rw [HA.out]; rintro ⟨-, h, -⟩; omega))
    have d0 : decide (a < 0) = true := decide_eq_true ha0
    go_wp2
    refine bodyPost_ret (v := .tuple #[.slice none 0 0, .bool false]) (by simp [results, Try.results33, go_sem]) rfl ⟨.slice none 0 0, [], by rw [E.out]; rfl, own_none _ _, by rw [E.out]; rfl, B2.out⟩
  have d0 : decide (a < 0) = false := decide_eq_false ha0
  obtain ⟨hck, h12⟩ := lockPlanB_facts Hb1.out
  rw [← HLD.out, List.length_map, HM.out] at h12
  obtain ⟨kl0, kl1, ka0, ka1, km0, km1⟩ := chamB_true hck
  have wam : IntKind.i64.wrap (a - k.minutes) = a - k.minutes := by rw [IntKind.wrap_i64]; omega
  clear hck
  have vk0 : w2.cell? ⟨w.heap.size, 0, none⟩ = some (.int .i64 k.length) := Kk_2.out.cell 0
  have vk1 : w2.cell? ⟨w.heap.size, 1, none⟩ = some (.int .i64 k.lanes) := Kk_2.out.cell 1
  have vk2 : w2.cell? ⟨w.heap.size, 2, none⟩ = some (.int .i64 k.minutes) := Kk_2.out.cell 2
  go_wp2_with fail
  clear vk0 vk1 vk2
  refine (specCopy _ rows _ (Rrows.out.below B2.out) (by rw [HM.out]; omega)).mono ?_
  rintro e w3 ⟨v3, qs, rfl, ho3, hq3, hb3⟩
  have B3 := Lib.hid (B2.out.trans (hb3.mono B2.out.size))
  have Kk_3 := Lib.hid (Kk_2.out.below hb3)
  have G3 := Lib.hid (GathL.mk ho3 hb3)
  have HQ := Lib.hid hq3
  obtain ⟨Qa, Qc, rfl⟩ := G3.out.form
  have HQL := Lib.hid (show qs.length = m by have := congrArg List.length hq3; rw [← HM.out]; simpa using this)
  clear ho3 hq3
  clear hb3
  by_cases h0 : m = 0
  · have g0 : decide ((0 : Int) < (m : Int)) = false := decide_eq_false (by omega)
    have g0' : ¬ 0 < m := by omega
    have HM0 := Lib.hid (midL_none (k := k) (up := up) (a := a) (HM.out.trans h0))
    rw [HLD.out] at HM0
    go_upto_region 7 with fail
    have HMID := Lib.hid (show qs.map LockR.d = l ++ midL k l up a from by rw [HQ.out, HLD.out, HM0.out, List.append_nil])
    have hn14 : qs.length ≤ 13 := by have := HQL.out; omega
    have hbulk : bulkLock qs = bulkLock rows := bulkLock_same (HQ.out)
    have L1 := Liv.build (Liv.nil w3) 0 [] (by simp)
    have RS := Lib.hid (Rsh.out.below (B3.out.trans (L1.low.mono B3.out.size)))
    have L1 := Lib.hid L1
    go_upto_region 8 with (first | (at_builtin; refine wpList_plain rfl fun K hK => wp_of_step (ops := #[]) rfl (step_liv L1.out (L' := []) (τ := 0) (v := .slice (some ⟨w3.heap.size, 0, none⟩) 0 0) (u := .slice Ash sh.length csh) (l := []) (m := sh) 1 rfl (.tmp 60) (.tmp 61) rfl rfl rfl List.mem_cons_self RS.out (by simp; omega) (fun q hq => by cases hq) ?_); intro v8 x8 hl8; refine hK _ _ ?_; have hr8 := hl8.own _ List.mem_cons_self; have LB := Lib.hid hl8.low; obtain ⟨V5, c5, e5⟩ := own_form hr8; simp only [List.nil_append] at e5 hr8; subst e5; have OR := Lib.hid hr8; have BX := Joins.below_alloc1 x8 (.cells #[.int .i64 a, .bool up, .slice V5 sh.length c5] 38); have OA := Lib.hid (own_below OR.out BX); have LC := Lib.hid (LB.out.trans (BX.mono LB.out.size)); have HNB := Lib.hid (World.news_of_block (heap_alloc_new x8 (.cells #[.int .i64 a, .bool up, .slice V5 sh.length c5] 38))); have GA := Lib.hid (G3.out.below LC.out); clear BX hl8 hr8) | (at_builtin; refine wpList_append_lies _ rfl (.tmp 57) (.tmp 64) _ rfl w2.heap.size 38 i0 _ 3 40 Try.underlying26 HI.out.1 HI.out.2.1 HI.out.2.2.1 HI.out.2.2.2 rfl (by omega) (.slice Qa qs.length Qc) qs.length (qs.flatMap LockR.cells) rfl GA.out.own.1 ⟨x8.heap.size, 0, none⟩ 1 1 (LockR.cells (⟨a, up, .slice V5 sh.length c5, sh⟩ : LockR)) rfl rfl HNB.out (lock_one _ rfl) (by omega) (by unfold maxLen; omega) (by omega) GA.out.low.size _ rfl ?_; intro g4 cap4 w4 hown4 hgrow4 hor4 hlt4; have GX := Lib.hid (G3.out.next LC.out OA.out hown4 hgrow4 hor4); clear hown4 hgrow4 hor4 hlt4))
    have PT := OwnLocks.parts GX.out.own (by rw [bulkLock_app, hbulk]; simp [bulkLock]; omega)
    have BW := Lib.hid (B2.out.trans (GX.out.low.mono B2.out.size))
    have KW := Lib.hid (Kk_2.out.below GX.out.low)
    have HEQ := Lib.hid (show (qs ++ [(⟨a, up, .slice V5 sh.length c5, sh⟩ : LockR)]).map LockR.d = appendL k l up a sh by rw [List.map_append, HMID.out]; rfl)
    obtain ⟨b9, hb9⟩ : ∃ b, lockPlanB k fl (appendL k l up a sh) = b := ⟨_, rfl⟩
    have HB9 := Lib.hid hb9
    clear hb9
    have LP := Lib.hid (specLockPlanOk k _ fl _ (qs ++ [(⟨a, up, .slice V5 sh.length c5, sh⟩ : LockR)]) w4 (Rfl.out.below BW.out) PT.2.1 Nfl.out (by rw [bulkLock_app, hbulk]; simp [bulkLock]; omega))
    rw [HEQ.out, HB9.out] at LP
    clear PT
    have vk0 : w4.cell? ⟨w.heap.size, 0, none⟩ = some (.int .i64 k.length) := KW.out.cell 0
    have vk1 : w4.cell? ⟨w.heap.size, 1, none⟩ = some (.int .i64 k.lanes) := KW.out.cell 1
    have vk2 : w4.cell? ⟨w.heap.size, 2, none⟩ = some (.int .i64 k.minutes) := KW.out.cell 2
    go_wp2_with fail
    clear vk0 vk1 vk2
    refine LP.out.mono ?_
    rintro e w9 ⟨rfl, hb9⟩
    have B9 := Lib.hid (BW.out.trans (hb9.mono BW.out.size))
    have G9 := Lib.hid (GX.out.below hb9)
    clear hb9 LP
    cases b9 with
    | false =>
      have E := Lib.hid (appendO_no (k := k) (fl := fl) (l := l) (s := sh) (ready := rd) (up := up) (by rw [HA.out]; rintro ⟨-, -, h⟩; have := HB9.out; rw [h] at this; cases this))
      go_wp2
      refine bodyPost_ret (v := .tuple #[.slice none 0 0, .bool false]) (by simp [results, Try.results33, go_sem]) rfl ⟨.slice none 0 0, [], by rw [E.out]; rfl, own_none _ _, by rw [E.out]; rfl, B9.out⟩
    | true =>
      have E := Lib.hid (appendO_yes (s := sh) (ready := rd) (up := up) Hb1.out (by rw [HA.out]; omega) (by rw [HA.out]; exact HB9.out))
      rw [HA.out] at E
      go_wp2
      refine bodyPost_ret (v := .tuple #[.slice (some ⟨g4, 0, none⟩) (qs.length + 1) cap4, .bool true]) (by simp [results, Try.results33, go_sem]) rfl ⟨.slice (some ⟨g4, 0, none⟩) (qs.length + 1) cap4, _, by rw [E.out]; rfl, G9.out.own.lo B2.out.size, by rw [E.out]; exact HEQ.out, B9.out⟩
  obtain ⟨n, hn1⟩ : ∃ n, m = n + 1 := ⟨m - 1, by omega⟩
  obtain ⟨z, hz⟩ : ∃ z, rows[n]? = some z := ⟨_, List.getElem?_eq_getElem (by rw [HM.out]; omega)⟩
  have HM0 := Lib.hid (midL_last (k := k) (up := up) (a := a) (show rows[rows.length - 1]? = some z by rw [HM.out, hn1]; exact hz))
  rw [HLD.out] at HM0
  rcases Rrows.out.1.2 with ⟨he, _⟩ | ⟨gl, ol, cl', e, lpos, lcap, lc⟩
  · have := HM.out; rw [he] at this; exact absurd this.symm h0
  injection e with ea e2 e3
  subst ea
  clear e2 e3 lpos lcap
  have z1 := cell_onV (LockR.at lc n z hz).2.1 B3.out
  clear lc hz
  have g0 : decide (0 < m) = true := decide_eq_true (by omega)
  have g1 : 0 < m := by omega
  have wn : IntKind.i64.wrap ((m : Int) - 1) = (n : Int) := by rw [IntKind.wrap_i64]; omega
  have hnl' : n < m := by omega
  clear hn1
  obtain ⟨bu, hbu⟩ : ∃ b, (z.up == up) = b := ⟨_, rfl⟩
  have HBU := Lib.hid hbu
  cases bu with
  | false =>
    have hne : ¬ z.up = up := fun h => by rw [h] at hbu; simp at hbu
    have HM1 := Lib.hid (HM0.out.trans (if_neg hne))
    clear hne
    go_upto_region 7 with fail
    clear z1
    have HMID := Lib.hid (show qs.map LockR.d = l ++ midL k l up a from by rw [HQ.out, HLD.out, HM1.out, List.append_nil])
    have hn14 : qs.length ≤ 13 := by have := HQL.out; omega
    have hbulk : bulkLock qs = bulkLock rows := bulkLock_same (HQ.out)
    have L1 := Liv.build (Liv.nil w3) 0 [] (by simp)
    have RS := Lib.hid (Rsh.out.below (B3.out.trans (L1.low.mono B3.out.size)))
    have L1 := Lib.hid L1
    go_upto_region 8 with (first | (at_builtin; refine wpList_plain rfl fun K hK => wp_of_step (ops := #[]) rfl (step_liv L1.out (L' := []) (τ := 0) (v := .slice (some ⟨w3.heap.size, 0, none⟩) 0 0) (u := .slice Ash sh.length csh) (l := []) (m := sh) 1 rfl (.tmp 60) (.tmp 61) rfl rfl rfl List.mem_cons_self RS.out (by simp; omega) (fun q hq => by cases hq) ?_); intro v8 x8 hl8; refine hK _ _ ?_; have hr8 := hl8.own _ List.mem_cons_self; have LB := Lib.hid hl8.low; obtain ⟨V5, c5, e5⟩ := own_form hr8; simp only [List.nil_append] at e5 hr8; subst e5; have OR := Lib.hid hr8; have BX := Joins.below_alloc1 x8 (.cells #[.int .i64 a, .bool up, .slice V5 sh.length c5] 38); have OA := Lib.hid (own_below OR.out BX); have LC := Lib.hid (LB.out.trans (BX.mono LB.out.size)); have HNB := Lib.hid (World.news_of_block (heap_alloc_new x8 (.cells #[.int .i64 a, .bool up, .slice V5 sh.length c5] 38))); have GA := Lib.hid (G3.out.below LC.out); clear BX hl8 hr8) | (at_builtin; refine wpList_append_lies _ rfl (.tmp 57) (.tmp 64) _ rfl w2.heap.size 38 i0 _ 3 40 Try.underlying26 HI.out.1 HI.out.2.1 HI.out.2.2.1 HI.out.2.2.2 rfl (by omega) (.slice Qa qs.length Qc) qs.length (qs.flatMap LockR.cells) rfl GA.out.own.1 ⟨x8.heap.size, 0, none⟩ 1 1 (LockR.cells (⟨a, up, .slice V5 sh.length c5, sh⟩ : LockR)) rfl rfl HNB.out (lock_one _ rfl) (by omega) (by unfold maxLen; omega) (by omega) GA.out.low.size _ rfl ?_; intro g4 cap4 w4 hown4 hgrow4 hor4 hlt4; have GX := Lib.hid (G3.out.next LC.out OA.out hown4 hgrow4 hor4); clear hown4 hgrow4 hor4 hlt4))
    have PT := OwnLocks.parts GX.out.own (by rw [bulkLock_app, hbulk]; simp [bulkLock]; omega)
    have BW := Lib.hid (B2.out.trans (GX.out.low.mono B2.out.size))
    have KW := Lib.hid (Kk_2.out.below GX.out.low)
    have HEQ := Lib.hid (show (qs ++ [(⟨a, up, .slice V5 sh.length c5, sh⟩ : LockR)]).map LockR.d = appendL k l up a sh by rw [List.map_append, HMID.out]; rfl)
    obtain ⟨b9, hb9⟩ : ∃ b, lockPlanB k fl (appendL k l up a sh) = b := ⟨_, rfl⟩
    have HB9 := Lib.hid hb9
    clear hb9
    have LP := Lib.hid (specLockPlanOk k _ fl _ (qs ++ [(⟨a, up, .slice V5 sh.length c5, sh⟩ : LockR)]) w4 (Rfl.out.below BW.out) PT.2.1 Nfl.out (by rw [bulkLock_app, hbulk]; simp [bulkLock]; omega))
    rw [HEQ.out, HB9.out] at LP
    clear PT
    have vk0 : w4.cell? ⟨w.heap.size, 0, none⟩ = some (.int .i64 k.length) := KW.out.cell 0
    have vk1 : w4.cell? ⟨w.heap.size, 1, none⟩ = some (.int .i64 k.lanes) := KW.out.cell 1
    have vk2 : w4.cell? ⟨w.heap.size, 2, none⟩ = some (.int .i64 k.minutes) := KW.out.cell 2
    go_wp2_with fail
    clear vk0 vk1 vk2
    refine LP.out.mono ?_
    rintro e w9 ⟨rfl, hb9⟩
    have B9 := Lib.hid (BW.out.trans (hb9.mono BW.out.size))
    have G9 := Lib.hid (GX.out.below hb9)
    clear hb9 LP
    cases b9 with
    | false =>
      have E := Lib.hid (appendO_no (k := k) (fl := fl) (l := l) (s := sh) (ready := rd) (up := up) (by rw [HA.out]; rintro ⟨-, -, h⟩; have := HB9.out; rw [h] at this; cases this))
      go_wp2
      refine bodyPost_ret (v := .tuple #[.slice none 0 0, .bool false]) (by simp [results, Try.results33, go_sem]) rfl ⟨.slice none 0 0, [], by rw [E.out]; rfl, own_none _ _, by rw [E.out]; rfl, B9.out⟩
    | true =>
      have E := Lib.hid (appendO_yes (s := sh) (ready := rd) (up := up) Hb1.out (by rw [HA.out]; omega) (by rw [HA.out]; exact HB9.out))
      rw [HA.out] at E
      go_wp2
      refine bodyPost_ret (v := .tuple #[.slice (some ⟨g4, 0, none⟩) (qs.length + 1) cap4, .bool true]) (by simp [results, Try.results33, go_sem]) rfl ⟨.slice (some ⟨g4, 0, none⟩) (qs.length + 1) cap4, _, by rw [E.out]; rfl, G9.out.own.lo B2.out.size, by rw [E.out]; exact HEQ.out, B9.out⟩
  | true =>
    have hne : z.up = up := by simpa using hbu
    have HM1 := Lib.hid (HM0.out.trans (if_pos hne))
    clear hne
    have hq12 : qs.length ≤ 12 := by have := HQL.out; omega
    have L0 := Liv.build (Liv.nil w3) 0 [] (by simp)
    have BX0 := Joins.below_alloc1 (w3.alloc (.cells #[] 3)) (.cells #[.int .i64 (a - k.minutes), .bool (!up), .slice (some ⟨w3.heap.size, 0, none⟩) 0 0] 38)
    have OA0 := Lib.hid (show OwnInt ((w3.alloc (.cells #[] 3)).alloc (.cells #[.int .i64 (a - k.minutes), .bool (!up), .slice (some ⟨w3.heap.size, 0, none⟩) 0 0] 38)) w3.heap.size (.slice (some ⟨w3.heap.size, 0, none⟩) 0 0) [] from own_below (L0.own _ List.mem_cons_self) BX0)
    have LC0 := Lib.hid (L0.low.trans (BX0.mono L0.low.size))
    have hnb := World.news_of_block (heap_alloc_new (w3.alloc (.cells #[] 3)) (.cells #[.int .i64 (a - k.minutes), .bool (!up), .slice (some ⟨w3.heap.size, 0, none⟩) 0 0] 38))
    rw [World.size_alloc] at hnb
    have HNB := Lib.hid hnb
    clear hnb
    have GA0 := Lib.hid (G3.out.below LC0.out)
    clear L0 BX0
    have vk0 : w3.cell? ⟨w.heap.size, 0, none⟩ = some (.int .i64 k.length) := Kk_3.out.cell 0
    have vk1 : w3.cell? ⟨w.heap.size, 1, none⟩ = some (.int .i64 k.lanes) := Kk_3.out.cell 1
    have vk2 : w3.cell? ⟨w.heap.size, 2, none⟩ = some (.int .i64 k.minutes) := Kk_3.out.cell 2
    go_upto_region 7 with ((at_builtin; refine wpList_append_lies _ rfl (.tmp 46) (.tmp 55) _ rfl w2.heap.size 38 i0 _ 3 40 Try.underlying26 HI.out.1 HI.out.2.1 HI.out.2.2.1 HI.out.2.2.2 rfl (by omega) (.slice Qa qs.length Qc) qs.length (qs.flatMap LockR.cells) rfl GA0.out.own.1 ⟨w3.heap.size + 1, 0, none⟩ 1 1 (LockR.cells (⟨a - k.minutes, !up, .slice (some ⟨w3.heap.size, 0, none⟩) 0 0, []⟩ : LockR)) rfl rfl HNB.out (lock_one _ rfl) (by omega) (by unfold maxLen; omega) (by omega) GA0.out.low.size _ rfl ?_; intro g4 cap4 w4 hown4 hgrow4 hor4 hlt4; have GY := Lib.hid (G3.out.next LC0.out OA0.out hown4 hgrow4 hor4); clear hown4 hgrow4 hor4 hlt4))
    clear z1 vk0 vk1 vk2 HNB GA0 LC0 OA0
    obtain ⟨ts, hts⟩ : ∃ ts, ts = qs ++ [(⟨a - k.minutes, !up, .slice (some ⟨w3.heap.size, 0, none⟩) 0 0, []⟩ : LockR)] := ⟨_, rfl⟩
    have htl : ts.length = qs.length + 1 := by rw [hts]; simp
    have HTD := Lib.hid (show ts.map LockR.d = l ++ midL k l up a by rw [hts, List.map_append, HQ.out, HLD.out, HM1.out]; rfl)
    have HTB := Lib.hid (show bulkLock ts = bulkLock rows by rw [hts, bulkLock_app, bulkLock_same HQ.out]; simp [bulkLock])
    rw [← hts, ← htl] at GY
    rw [← htl]
    have HTL := Lib.hid htl
    obtain ⟨g5, hg5⟩ : ∃ g5, g5 = g4 := ⟨_, rfl⟩
    rw [← hg5] at GY ⊢
    have BY := Lib.hid (B2.out.trans (GY.out.low.mono B2.out.size))
    clear hts htl hg5 HM1 HM0 hq12
    have HMID := Lib.hid (show ts.map LockR.d = l ++ midL k l up a from HTD.out)
    have hn14 : ts.length ≤ 13 := by have := HQL.out; have := HTL.out; omega
    have hbulk : bulkLock ts = bulkLock rows := HTB.out
    have L1 := Liv.build (Liv.nil w4) 0 [] (by simp)
    have RS := Lib.hid (Rsh.out.below (BY.out.trans (L1.low.mono BY.out.size)))
    have L1 := Lib.hid L1
    go_upto_region 8 with (first | (at_builtin; refine wpList_plain rfl fun K hK => wp_of_step (ops := #[]) rfl (step_liv L1.out (L' := []) (τ := 0) (v := .slice (some ⟨w4.heap.size, 0, none⟩) 0 0) (u := .slice Ash sh.length csh) (l := []) (m := sh) 1 rfl (.tmp 60) (.tmp 61) rfl rfl rfl List.mem_cons_self RS.out (by simp; omega) (fun q hq => by cases hq) ?_); intro v8 x8 hl8; refine hK _ _ ?_; have hr8 := hl8.own _ List.mem_cons_self; have LB := Lib.hid hl8.low; obtain ⟨V5, c5, e5⟩ := own_form hr8; simp only [List.nil_append] at e5 hr8; subst e5; have OR := Lib.hid hr8; have BX := Joins.below_alloc1 x8 (.cells #[.int .i64 a, .bool up, .slice V5 sh.length c5] 38); have OA := Lib.hid (own_below OR.out BX); have LC := Lib.hid (LB.out.trans (BX.mono LB.out.size)); have HNB := Lib.hid (World.news_of_block (heap_alloc_new x8 (.cells #[.int .i64 a, .bool up, .slice V5 sh.length c5] 38))); have GA := Lib.hid (GY.out.below LC.out); clear BX hl8 hr8) | (at_builtin; refine wpList_append_lies _ rfl (.tmp 57) (.tmp 64) _ rfl w2.heap.size 38 i0 _ 3 40 Try.underlying26 HI.out.1 HI.out.2.1 HI.out.2.2.1 HI.out.2.2.2 rfl (by omega) (.slice (some ⟨g5, 0, none⟩) ts.length cap4) ts.length (ts.flatMap LockR.cells) rfl GA.out.own.1 ⟨x8.heap.size, 0, none⟩ 1 1 (LockR.cells (⟨a, up, .slice V5 sh.length c5, sh⟩ : LockR)) rfl rfl HNB.out (lock_one _ rfl) (by omega) (by unfold maxLen; omega) (by omega) GA.out.low.size _ rfl ?_; intro g4 cap4 w4 hown4 hgrow4 hor4 hlt4; have GX := Lib.hid (GY.out.next LC.out OA.out hown4 hgrow4 hor4); clear hown4 hgrow4 hor4 hlt4))
    have PT := OwnLocks.parts GX.out.own (by rw [bulkLock_app, hbulk]; simp [bulkLock]; omega)
    have BW := Lib.hid (B2.out.trans (GX.out.low.mono B2.out.size))
    have KW := Lib.hid (Kk_2.out.below GX.out.low)
    have HEQ := Lib.hid (show (ts ++ [(⟨a, up, .slice V5 sh.length c5, sh⟩ : LockR)]).map LockR.d = appendL k l up a sh by rw [List.map_append, HMID.out]; rfl)
    obtain ⟨b9, hb9⟩ : ∃ b, lockPlanB k fl (appendL k l up a sh) = b := ⟨_, rfl⟩
    have HB9 := Lib.hid hb9
    clear hb9
    have LP := Lib.hid (specLockPlanOk k _ fl _ (ts ++ [(⟨a, up, .slice V5 sh.length c5, sh⟩ : LockR)]) w4 (Rfl.out.below BW.out) PT.2.1 Nfl.out (by rw [bulkLock_app, hbulk]; simp [bulkLock]; omega))
    rw [HEQ.out, HB9.out] at LP
    clear PT
    have vk0 : w4.cell? ⟨w.heap.size, 0, none⟩ = some (.int .i64 k.length) := KW.out.cell 0
    have vk1 : w4.cell? ⟨w.heap.size, 1, none⟩ = some (.int .i64 k.lanes) := KW.out.cell 1
    have vk2 : w4.cell? ⟨w.heap.size, 2, none⟩ = some (.int .i64 k.minutes) := KW.out.cell 2
    go_wp2_with fail
    clear vk0 vk1 vk2
    refine LP.out.mono ?_
    rintro e w9 ⟨rfl, hb9⟩
    have B9 := Lib.hid (BW.out.trans (hb9.mono BW.out.size))
    have G9 := Lib.hid (GX.out.below hb9)
    clear hb9 LP
    cases b9 with
    | false =>
      have E := Lib.hid (appendO_no (k := k) (fl := fl) (l := l) (s := sh) (ready := rd) (up := up) (by rw [HA.out]; rintro ⟨-, -, h⟩; have := HB9.out; rw [h] at this; cases this))
      go_wp2
      refine bodyPost_ret (v := .tuple #[.slice none 0 0, .bool false]) (by simp [results, Try.results33, go_sem]) rfl ⟨.slice none 0 0, [], by rw [E.out]; rfl, own_none _ _, by rw [E.out]; rfl, B9.out⟩
    | true =>
      have E := Lib.hid (appendO_yes (s := sh) (ready := rd) (up := up) Hb1.out (by rw [HA.out]; omega) (by rw [HA.out]; exact HB9.out))
      rw [HA.out] at E
      go_wp2
      refine bodyPost_ret (v := .tuple #[.slice (some ⟨g4, 0, none⟩) (ts.length + 1) cap4, .bool true]) (by simp [results, Try.results33, go_sem]) rfl ⟨.slice (some ⟨g4, 0, none⟩) (ts.length + 1) cap4, _, by rw [E.out]; rfl, G9.out.own.lo B2.out.size, by rw [E.out]; exact HEQ.out, B9.out⟩
end Go.Proofs.Ytlddampjbmklkaa
