
/- FnLocks holds for every code: an appended locking keeps the plan valid and takes the chamber in the right direction. No condition. -/
import Derived.Test.YtlddampjbmklkaaLkTk
import Derived.Test.YtlddampjbmklkaaRows
import Derived.Test.YtlddampjbmklkaaLk1
import Derived.Test.YtlddampjbmklkaaLk0
import Derived.Test.YtlddampjbmklkaaLk21
import Derived.Test.YtlddampjbmklkaaLk18
import Derived.Test.YtlddampjbmklkaaLk23
import Derived.Test.YtlddampjbmklkaaLk16
import Derived.Deep.RegionHeld3
import Derived.Deep.DeepCutAuto
namespace Go.Proofs.Ytlddampjbmklkaa.lawLocks
open Go.ChangeShapes Go.WideShapes Go.ChangeAt Go.RowKit
set_option maxRecDepth 100000
theorem own : ownKnob Try.prog.godebug = none := by kernel_rfl
theorem laidOut : laidOutB Try.prog = true := by kernel_rfl
set_option maxHeartbeats 16000000 in
theorem law (A : Option Addr) (n c : Nat) (w : World) (hcode : n ≤ maxLen ∧ (n ≤ 1048576 → CodeAt w A n)) :
    Calls Try.prog 3 #[.slice A n c] w fun e w' => e = .returned (.bool true) ∧ Below w.heap.size w w' := by
  obtain ⟨hn, hcode⟩ := hcode
  have HC := Lib.hid hcode
  clear hcode
  unfold maxLen at hn
  by_cases hbig : 1048576 < n
  · go_enter Try.func3, Try.ntmps3
    go_wp2
    go_ret
    exact ⟨rfl, Below.refl _ _⟩
  have HC0 := Lib.hid (HC.out (by omega))
  clear HC
  go_enter Try.func3, Try.ntmps3
  go_wp2_with fail
  refine (makeLock_any A n c w HC0.out).mono ?_
  rintro e w1 ⟨d, v, fl, q, rs, rfl, hd, hfd, hf1, hf4, hof, hoq, hv, hn9, hb1⟩
  have HD := Lib.hid (cham_good hd)
  have HFD := Lib.hid hfd
  have HFB := Lib.hid (drawn_fleet hfd)
  have HV := Lib.hid hv
  have SF := own_sl shipLen hof (by omega)
  have SQ := (OwnLocks.parts hoq (by omega)).2.1
  obtain ⟨Af, cf, rfl⟩ := own_form hof
  obtain ⟨Aq, cq, rfl⟩ := own_form hoq.1
  obtain ⟨nf, hnf⟩ : ∃ n, fl.length = n := ⟨_, rfl⟩
  have HNF := Lib.hid hnf
  obtain ⟨m, hm⟩ : ∃ m, rs.length = m := ⟨_, rfl⟩
  have HM := Lib.hid hm
  have hm9 : m ≤ 9 := by have := bulkLock_pos rs; omega
  rw [hnf] at SF hf1 hf4 ⊢
  rw [hm] at SQ ⊢
  have HN9 := Lib.hid hn9
  have hal := Joins.below_alloc1 w1 (.cells #[.int .i64 d.length, .int .i64 d.lanes, .int .i64 d.minutes] 24)
  have KD := Blk.new w1 #[.int .i64 d.length, .int .i64 d.lanes, .int .i64 d.minutes] 24
  obtain ⟨W2, hW2⟩ : ∃ W, W = w1.alloc (.cells #[.int .i64 d.length, .int .i64 d.lanes, .int .i64 d.minutes] 24) := ⟨_, rfl⟩
  rw [← hW2] at hal KD
  have HW2 := Lib.hid hW2
  have K := Lib.hid KD
  have B2 := Lib.hid (hb1.trans (hal.mono hb1.size))
  have SF2 := Lib.hid (SlShip.below SF hal)
  have SQ2 := Lib.hid (SQ.below hal)
  have HC2 := Lib.hid (HC0.out.below B2.out)
  have B0 := Lib.hid (Below.refl W2.heap.size W2)
  clear hd hfd hof hoq hv hn9 hb1 SF SQ hnf hm hal KD hW2
  go_upto_region 4 with fail
  try rw [← HW2.out]
  go_wp2_with fail
  refine (makeNum_any A n c 60 _ (HC2.out.below B0.out) (by omega)).mono ?_
  rintro e x1 ⟨xu, rfl, xu0, xu1, hbx⟩
  have BX1 := Lib.hid (B0.out.trans (hbx.mono B0.out.size))
  clear hbx
  obtain ⟨up, hup⟩ : ∃ b, (xu.tmod 2 == 0) = b := ⟨_, rfl⟩
  clear xu0 xu1
  go_wp2_with fail
  refine (makeNum_any A n c 62 _ (HC2.out.below BX1.out) (by omega)).mono ?_
  rintro e x2 ⟨xr, rfl, xr0, xr1, hbx⟩
  have BX2 := Lib.hid (BX1.out.trans (hbx.mono BX1.out.size))
  clear hbx
  clear hup
  obtain ⟨rd, hrd⟩ : ∃ t, xr.tmod 300 = t := ⟨_, rfl⟩
  have rd0 : 0 ≤ rd ∧ rd ≤ 2880 := by rw [Int.tmod_eq_emod_of_nonneg xr0] at hrd; omega
  clear xr0 xr1
  go_wp2_with fail
  refine (makeNum_any A n c 64 _ (HC2.out.below BX2.out) (by omega)).mono ?_
  rintro e x3 ⟨xs, rfl, xs0, xs1, hbx⟩
  have BX3 := Lib.hid (BX2.out.trans (hbx.mono BX2.out.size))
  clear hbx
  clear hrd
  have hzp : (0 : Int) < (nf : Int) := by omega
  have hz : (nf : Int) ≠ 0 := by omega
  obtain ⟨s, hs⟩ : ∃ s : Nat, xs.tmod (nf : Int) = (s : Int) := ⟨(xs.tmod (nf : Int)).toNat, by rw [Int.tmod_eq_emod_of_nonneg xs0]; have := Int.emod_nonneg xs hz; omega⟩
  have slt : s < nf := by rw [Int.tmod_eq_emod_of_nonneg xs0] at hs; have := Int.emod_lt_of_pos xs hzp; omega
  have hz0 : ¬ (nf = 0) := by omega
  clear xs0 xs1 hzp hz
  obtain ⟨l, hld⟩ : ∃ l, rs.map LockR.d = l := ⟨_, rfl⟩
  have HLD := Lib.hid hld
  have HVL := Lib.hid (show lockPlanB d fl l = true by rw [← hld]; exact HV.out)
  have hlm : l.length = m := by rw [← hld, List.length_map]; exact HM.out
  have HLM := Lib.hid hlm
  obtain ⟨a, ha⟩ : ∃ a, nextI d l up rd = a := ⟨_, rfl⟩
  have HA := Lib.hid ha
  obtain ⟨ht1, -⟩ := next_turn (up := up) HVL.out rd0
  rw [ha] at ht1
  have ha2 : a ≤ 3120 := by rw [← ha]; exact nextI_le
  clear hld hlm ha
  have c0 : x3.cell? ⟨w1.heap.size, 0, none⟩ = some (.int .i64 d.length) := (K.out.below BX3.out).cell 0
  have c1 : x3.cell? ⟨w1.heap.size, 1, none⟩ = some (.int .i64 d.lanes) := (K.out.below BX3.out).cell 1
  have c2 : x3.cell? ⟨w1.heap.size, 2, none⟩ = some (.int .i64 d.minutes) := (K.out.below BX3.out).cell 2
  go_wp2_with fail
  clear c0 c1 c2
  refine (implNextTurn d _ rs up rd _ (SQ2.out.below BX3.out)).mono ?_
  rw [HLD.out, HA.out]
  rintro e x4 ⟨rfl, hbx⟩
  have BX4 := Lib.hid (BX3.out.trans (hbx.mono BX3.out.size))
  clear hbx
  clear hs hz0
  have c0 : x4.cell? ⟨w1.heap.size, 0, none⟩ = some (.int .i64 d.length) := (K.out.below BX4.out).cell 0
  have c1 : x4.cell? ⟨w1.heap.size, 1, none⟩ = some (.int .i64 d.lanes) := (K.out.below BX4.out).cell 1
  have c2 : x4.cell? ⟨w1.heap.size, 2, none⟩ = some (.int .i64 d.minutes) := (K.out.below BX4.out).cell 2
  go_wp2_with fail
  clear c0 c1 c2
  have hal := Joins.below_alloc1 x4 (.cells #[.int .i64 (s : Int)] 3)
  have L1 := (Liv.build (Liv.nil x4) 0 [(s : Int)] (by simp)).own _ List.mem_cons_self
  have SZ := Lib.hid (show SlInt (x4.alloc (.cells #[.int .i64 (s : Int)] 3)) (.slice (some ⟨x4.heap.size, 0, none⟩) 1 1) [(s : Int)] from OwnInt.sl L1 (by simp))
  have B5 := Lib.hid (BX4.out.trans (hal.mono BX4.out.size))
  have SA := Lib.hid (implAppendLocking d _ fl _ rs up rd _ [(s : Int)] (x4.alloc (.cells #[.int .i64 (s : Int)] 3)) (SlShip.below SF2.out B5.out) (SQ2.out.below B5.out) SZ.out (drawn_wf HFD.out) (by have := HN9.out; omega) (by simp))
  rw [HLD.out] at SA
  obtain ⟨ol, hol⟩ : ∃ x, appendO d fl l up rd [(s : Int)] = x := ⟨_, rfl⟩
  rw [hol] at SA
  have HOL := Lib.hid hol
  obtain ⟨ok, hok⟩ : ∃ b, ol.isSome = b := ⟨_, rfl⟩
  have HOK := Lib.hid hok
  clear hal L1 hol hok
  refine SA.out.mono ?_
  rintro e x5 ⟨v5, rs5, rfl, ho5, hd5, hb5⟩
  rw [HOK.out]
  have BX5 := Lib.hid (B5.out.trans (hb5.mono B5.out.size))
  have HO5 := Lib.hid ho5
  have HD5 := Lib.hid hd5
  obtain ⟨Q5, c5, rfl⟩ := own_form ho5.1
  obtain ⟨n5, hn5⟩ : ∃ n, rs5.length = n := ⟨_, rfl⟩
  have HN5 := Lib.hid hn5
  rw [hn5] at HO5 ⊢
  clear SA SZ ho5 hd5 hb5 hn5
  have LP := Lib.hid (implLockPlanOk d _ fl _ rs x5 (SlShip.below SF2.out BX5.out) (SQ2.out.below BX5.out) (drawn_wf HFD.out) (by have := HN9.out; omega))
  rw [HLD.out, HVL.out] at LP
  have c0 : x5.cell? ⟨w1.heap.size, 0, none⟩ = some (.int .i64 d.length) := (K.out.below BX5.out).cell 0
  have c1 : x5.cell? ⟨w1.heap.size, 1, none⟩ = some (.int .i64 d.lanes) := (K.out.below BX5.out).cell 1
  have c2 : x5.cell? ⟨w1.heap.size, 2, none⟩ = some (.int .i64 d.minutes) := (K.out.below BX5.out).cell 2
  go_wp2_with fail
  clear c0 c1 c2
  refine (LP.out).mono ?_
  rintro e x6 ⟨rfl, hbx⟩
  have BX6 := Lib.hid (BX5.out.trans (hbx.mono BX5.out.size))
  have HO6 := Lib.hid (HO5.out.below hbx)
  clear hbx
  clear LP HO5
  have t0 : decide (a < rd) = false := decide_eq_false (by omega)
  have t0b : ¬ a < rd := by omega
  cases ok with
  | false =>
    obtain ⟨x, hx⟩ : ∃ x, fl[s]? = some x := ⟨_, List.getElem?_eq_getElem (by have := HNF.out; omega)⟩
    have hno : ¬ (x.length ≤ d.length ∧ a ≤ 2880) := fun h => by
      have h2 := append_fits (up := up) HVL.out HFB.out rd0 hx h.1 (by rw [HLM.out]; omega) (by rw [HA.out]; exact h.2)
      rw [HOL.out, HOK.out] at h2
      cases h2
    rcases SF2.out.2 with ⟨he, _⟩ | ⟨gf, of, cf', e, _, _, fc⟩
    · rw [he] at hx; simp at hx
    injection e with ea ex ey
    subst ea
    clear ex ey
    have BR := Lib.hid BX6.out
    have FC := Lib.hid (show x6.cell? ⟨gf, of + s * 6 + 1, none⟩ = some (.int .i64 x.length) from cell_onV (SlShip.cells fc s x hx).2.1 BX6.out)
    have KC := Lib.hid (show x6.cell? ⟨w1.heap.size, 0, none⟩ = some (.int .i64 d.length) from (K.out.below BX6.out).cell 0)
    have fc1 := FC.out
    have kc1 := KC.out
    clear fc hx
    have wm : IntKind.i64.wrap ((m : Int) + 2) = (m : Int) + 2 := by rw [IntKind.wrap_i64]; omega
    have t1 : decide ((12 : Int) < (m : Int) + 2) = false := decide_eq_false (by omega)
    have t1b : ¬ (12 : Int) < (m : Int) + 2 := by omega
    by_cases hxl : d.length < x.length
    · have t2 : decide (d.length < x.length) = true := decide_eq_true hxl
      go_upto_region 12 with fail
      refine wp_region_held_drew (S := (fun w' => w'.cell? ⟨gf, of + s * 6 + 1, none⟩ = some (.int .i64 x.length) ∧ w'.cell? ⟨w1.heap.size, 0, none⟩ = some (.int .i64 d.length))) (by kernel_rfl) ?_ (fun hHeld => ?_)
      · (try dsimp only); go_keep
      refine tk 0 ?_
      refine tk 1 ?_
      refine tk 2 ?_
      refine tk 3 ?_
      refine tk 4 ?_
      refine tk 5 ?_
      refine tk 6 ?_
      refine tk 7 ?_
      refine tk 8 ?_
      refine tku 9 ?_
      refine tku 10 ?_
      refine tku 11 ?_
      refine tku 12 ?_
      refine tk 13 ?_
      refine tk 14 ?_
      refine tku 15 ?_
      refine tku 16 ?_
      refine tk 17 ?_
      refine tk 18 ?_
      refine wpAnyH_done (by kernel_rfl) ?_ _
      go_wp2
      go_ret
      exact ⟨rfl, B2.out.trans ((BR.out.drew).mono B2.out.size)⟩
    · have t2 : decide (d.length < x.length) = false := decide_eq_false hxl
      have t3 : decide ((2880 : Int) < a) = true := decide_eq_true (by omega)
      have t3b : (2880 : Int) < a := by omega
      go_upto_region 12 with fail
      refine wp_region_held_drew (S := (fun w' => w'.cell? ⟨gf, of + s * 6 + 1, none⟩ = some (.int .i64 x.length) ∧ w'.cell? ⟨w1.heap.size, 0, none⟩ = some (.int .i64 d.length))) (by kernel_rfl) ?_ (fun hHeld => ?_)
      · (try dsimp only); go_keep
      refine tk 0 ?_
      refine tk 1 ?_
      refine tk 2 ?_
      refine tk 3 ?_
      refine tk 4 ?_
      refine tk 5 ?_
      refine tk 6 ?_
      refine tk 7 ?_
      refine tk 8 ?_
      refine tk 9 ?_
      refine tk 10 ?_
      refine tk 11 ?_
      refine tk 12 ?_
      refine tk 13 ?_
      refine tk 14 ?_
      refine tk 15 ?_
      refine tk 16 ?_
      refine tk 17 ?_
      refine tk 18 ?_
      refine wpAnyH_done (by kernel_rfl) ?_ _
      go_wp2
      go_ret
      exact ⟨rfl, B2.out.trans ((BR.out.drew).mono B2.out.size)⟩
  | true =>
    obtain ⟨nx, hnx⟩ := Option.isSome_iff_exists.1 HOK.out
    obtain ⟨hvn, hen⟩ := append_some (HOL.out.trans hnx)
    rw [HA.out] at hen
    have hdn : rs5.map LockR.d = nx := by have := HD5.out; rw [hnx] at this; exact this
    have hl5 : n5 = m + (midL d l up a).length + 1 := by rw [← HN5.out, ← List.length_map (f := LockR.d), hdn, hen, append_len, HLM.out]
    have hmid : (midL d l up a).length ≤ 1 := by unfold midL; split <;> (try split) <;> simp
    have hb5 : bulkLock rs5 ≤ 12 := by
      have h := appendO_len d fl l up rd [(s : Int)]
      rw [HOL.out, hnx] at h
      have h : (nx.length : Int) + bulkD nx ≤ (l.length : Int) + bulkD l + ([(s : Int)] : List Int).length + 2 := h
      have h9 := HN9.out
      have e1 : bulkD l = bulkLock rs := by rw [← HLD.out, bulkD_map]
      have e2 : bulkD nx = bulkLock rs5 := by rw [← hdn, bulkD_map]
      have e3 : (nx.length : Int) = n5 := by rw [← hdn, List.length_map, HN5.out]
      rw [e1, e2, e3, HLM.out] at h
      have := HM.out
      simp at h
      omega
    have hlk := append_locked (s := s) (up := up) (l := l) (a := a) (k := d) (fl := fl) (by rw [← hen]; exact hvn)
    have hord := append_order (k := d) (l := l) (up := up) (a := a) (t := [(s : Int)])
    have hem := append_empty (k := d) (l := l) (up := up) (a := a) (t := [(s : Int)])
    have hla := append_last (k := d) (l := l) (up := up) (a := a) (t := [(s : Int)])
    rw [← hen] at hlk hord hem hla
    rw [HLM.out] at hem
    have HB5 := Lib.hid (show (rs5.length : Int) + bulkLock rs5 ≤ 100 by have := HN5.out; omega)
    have HDN := Lib.hid hdn
    have HVN := Lib.hid hvn
    have hnl : (nx.length : Int) = (n5 : Int) := by rw [← hdn, List.length_map, HN5.out]
    rw [hnl] at hem
    obtain ⟨j, hj⟩ : ∃ j, n5 = j + 1 := ⟨n5 - 1, by omega⟩
    obtain ⟨z, hzz⟩ : ∃ z, rs5[j]? = some z := ⟨_, List.getElem?_eq_getElem (by have := HN5.out; omega)⟩
    have hzd : z.d = ⟨a, up, [(s : Int)]⟩ := by
      rw [List.getLast?_eq_getElem?, ← hdn, List.length_map, HN5.out, hj, Nat.add_sub_cancel, lockD_at hzz] at hla
      exact Option.some.inj hla
    have hz1 : z.start = a := congrArg LockD.start hzd
    have hz2 : z.up = up := congrArg LockD.up hzd
    obtain ⟨od, hod⟩ : ∃ x, lockOrd nx up = x := ⟨_, rfl⟩
    have HOD := Lib.hid hod
    rw [hod] at hord
    obtain ⟨no, hno⟩ : ∃ n, (lockOrd (l ++ midL d l up a) up).length = n := ⟨_, rfl⟩
    have hol : od.length = no + 1 := by rw [hord, List.length_append, hno]; rfl
    have hos : od[no]? = some (s : Int) := by rw [hord, ← hno]; simp
    have hob : no + 1 ≤ 100 := by
      have h1 := lockOrd_all rs5 up
      rw [hdn, hod, hol] at h1
      have := HB5.out
      omega
    have HOLN := Lib.hid hol
    have HOS := Lib.hid hos
    clear hol hos hno hord hod
    obtain ⟨li, hli⟩ : ∃ x, lockedI nx (s : Int) up = x := ⟨_, rfl⟩
    have HLI := Lib.hid hli
    rw [hli] at hlk
    obtain ⟨hl0, hl1⟩ := hlk
    obtain ⟨em, hem'⟩ : ∃ x, emptyN nx = x := ⟨_, rfl⟩
    have HEM := Lib.hid hem'
    rw [hem'] at hem
    have hem9 : 0 ≤ em ∧ em ≤ 100 := by
      have h1 := emptyN_le nx nx.length
      rw [List.take_length, hem'] at h1
      omega
    clear hli hem' hla hen hvn hnl
    have SN6 := Lib.hid (show RdLocks x6 (.slice Q5 n5 c5) rs5 from (OwnLocks.parts HO6.out (by have := HB5.out; omega)).2.1)
    have LP2 := Lib.hid (implLockPlanOk d _ fl _ rs5 x6 (SlShip.below SF2.out BX6.out) SN6.out (drawn_wf HFD.out) (by have := HB5.out; omega))
    rw [HDN.out, HVN.out] at LP2
    obtain ⟨Az, cz, hzv⟩ := (SN6.out.2 z (List.mem_of_getElem? hzz)).at
    obtain ⟨nz, hnz⟩ : ∃ n, z.ships.length = n := ⟨_, rfl⟩
    rw [hnz] at hzv
    rcases SN6.out.1.2 with ⟨he, _⟩ | ⟨gz, oz, cz', e, _, _, zc⟩
    · rw [he] at hzz; simp at hzz
    injection e with ea ex ey
    subst ea
    clear ex ey
    obtain ⟨p0, p1, p2⟩ := LockR.at zc j z hzz
    rw [hz1] at p0
    rw [hz2] at p1
    rw [hzv] at p2
    have ZP0 := Lib.hid p0
    have ZP1 := Lib.hid p1
    have ZP2 := Lib.hid p2
    clear p0 p1 p2 zc hzz hzv hnz hz1 hz2 hzd hdn hnx hb5
    have hj5 : j + 1 ≤ 11 := by omega
    have hmj : m ≤ j := by omega
    have hem2 : ((j + 1 : Nat) : Int) - (m : Int) ≤ em + 1 := by rw [← hj]; exact hem
    rw [hj] at SN6 LP2 HO6
    try rw [hj]
    clear hl5 hmid hem hj
    have c0 : x6.cell? ⟨w1.heap.size, 0, none⟩ = some (.int .i64 d.length) := (K.out.below BX6.out).cell 0
    have c1 : x6.cell? ⟨w1.heap.size, 1, none⟩ = some (.int .i64 d.lanes) := (K.out.below BX6.out).cell 1
    have c2 : x6.cell? ⟨w1.heap.size, 2, none⟩ = some (.int .i64 d.minutes) := (K.out.below BX6.out).cell 2
    go_wp2_with fail
    clear c0 c1 c2
    refine (LP2.out).mono ?_
    rintro e x7 ⟨rfl, hbx⟩
    have BX7 := Lib.hid (BX6.out.trans (hbx.mono BX6.out.size))
    have SN7 := Lib.hid (SN6.out.below hbx)
    have y0 := cell_onV ZP0.out hbx
    have y1 := cell_onV ZP1.out hbx
    have y2 := cell_onV ZP2.out hbx
    clear hbx
    have g1 : decide (((j + 1 : Nat) : Int) ≤ (m : Int)) = false := decide_eq_false (by omega)
    have g1b : ¬ ((j : Int) + 1 ≤ (m : Int)) := by omega
    have g1c : ¬ (j + 1 ≤ m) := by omega
    have g1d : decide ((j : Int) + 1 ≤ (m : Int)) = false := decide_eq_false (by omega)
    have wj : IntKind.i64.wrap (((j + 1 : Nat) : Int) - 1) = (j : Int) := by rw [IntKind.wrap_i64]; omega
    go_upto_region 16 with fail
    have BL := Joins.below_alloc1 x7 (.cells #[.int .i64 a, .bool up, .slice Az nz cz] 38)
    have KN := Blk.new x7 #[.int .i64 a, .bool up, .slice Az nz cz] 38
    obtain ⟨y8, hy8⟩ : ∃ W, W = x7.alloc (.cells #[.int .i64 a, .bool up, .slice Az nz cz] 38) := ⟨_, rfl⟩
    rw [← hy8] at BL KN ⊢
    have SN8 := Lib.hid (SN7.out.below BL)
    have BY8 := Lib.hid (BX7.out.trans (BL.mono BX7.out.size))
    have KP := Lib.hid KN
    clear hy8 BL KN y0 y1 y2 g1 g1b g1c g1d wj
    go_wp2_with fail
    refine (implLockOrder _ rs5 up _ SN8.out (by have := HB5.out; omega)).mono ?_
    rw [HDN.out, HOD.out]
    rintro e x9 ⟨vo, rfl, hoo, hbx⟩
    have BX9 := Lib.hid (BY8.out.trans (hbx.mono BY8.out.size))
    have SN9 := Lib.hid (SN8.out.below hbx)
    have KP9 := Lib.hid (KP.out.below hbx)
    have OO := Lib.hid hoo
    obtain ⟨Ao, co, rfl⟩ := own_form hoo
    clear hoo
    clear hbx
    rw [HOLN.out] at OO ⊢
    have SO9 := OwnInt.sl OO.out (by rw [HOLN.out]; omega)
    rcases SO9.2 with ⟨he, _⟩ | ⟨go, oo, co', e, _, _, oc⟩
    · have := HOLN.out; rw [he] at this; cases this
    injection e with ea ex ey
    subst ea
    have OC := Lib.hid (SlInt.cells oc no _ HOS.out)
    clear ex ey SO9 oc
    have p0 : x9.cell? ⟨x7.heap.size, 0, none⟩ = some (.int .i64 a) := KP9.out.cell 0
    have p1 : x9.cell? ⟨x7.heap.size, 1, none⟩ = some (.bool up) := KP9.out.cell 1
    have q1 : (a == a) = true := by simp
    have q2 : (up == up) = true := by simp
    go_wp2_with fail
    refine (implLockedAt _ rs5 (s : Int) up _ SN9.out).mono ?_
    rw [HDN.out, HLI.out]
    rintro e x10 ⟨rfl, hbx⟩
    have BX10 := Lib.hid (BX9.out.trans (hbx.mono BX9.out.size))
    have SN10 := Lib.hid (SN9.out.below hbx)
    have OC10 := Lib.hid (cell_onV OC.out hbx)
    clear hbx
    clear p0 p1 q1 q2
    have g2 : decide ((0 : Int) ≤ li) = true := decide_eq_true hl0
    go_wp2_with fail
    refine (implLockedAt _ rs5 (s : Int) up _ SN10.out).mono ?_
    rw [HDN.out, HLI.out]
    rintro e x11 ⟨rfl, hbx⟩
    have BX11 := Lib.hid (BX10.out.trans (hbx.mono BX10.out.size))
    have SN11 := Lib.hid (SN10.out.below hbx)
    have oc11 := cell_onV OC10.out hbx
    clear hbx
    clear g2
    have g3 : decide (li ≤ a) = true := decide_eq_true hl1
    have g4 : decide ((0 : Int) < ((no + 1 : Nat) : Int)) = true := decide_eq_true (by omega)
    have g4b : (0 : Int) < (no : Int) + 1 := by omega
    have g4c : decide ((0 : Int) < (no : Int) + 1) = true := decide_eq_true g4b
    have wo : IntKind.i64.wrap (((no + 1 : Nat) : Int) - 1) = (no : Int) := by rw [IntKind.wrap_i64]; omega
    have q3 : ((s : Int) == (s : Int)) = true := by simp
    go_wp2_with fail
    refine (implEmptyLockings _ rs5 _ SN11.out (by have := HB5.out; have := bulkLock_pos rs5; omega)).mono ?_
    rw [HDN.out, HEM.out]
    rintro e x12 ⟨rfl, hbx⟩
    have BX12 := Lib.hid (BX11.out.trans (hbx.mono BX11.out.size))
    clear hbx
    clear g3 g4 g4b g4c wo q3 oc11
    have we : IntKind.i64.wrap (em + 1) = em + 1 := by rw [IntKind.wrap_i64]; omega
    have HF := Lib.hid (show decide ((j : Int) + 1 - (m : Int) ≤ em + 1) = true from decide_eq_true (by omega))
    have wd : IntKind.i64.wrap (((j + 1 : Nat) : Int) - (m : Int)) = (j : Int) + 1 - (m : Int) := by rw [IntKind.wrap_i64]; omega
    go_wp2
    go_ret
    exact ⟨ret_bool HF.out, B2.out.trans (BX12.out.mono B2.out.size)⟩
set_option maxRecDepth 100000 in
theorem lifted (os : Os) (started : os.Started) (H : Type) (enc : TypeId × Value → H) :
    ReturnsInHanded {} Try.checked os 3 .any (Rows.fnLocksSpec.pre6 enc Try.prog Try.f3 Rows.fnLocksRow.domain false) (Rows.fnLocksSpec.post enc Try.prog Try.f3 false true false false) := by
  refine returnsInHanded_of_change (C := Try.checked) own started (by kernel_rfl) Try.func3
    (ChangeSpec.witness6 (enc := enc) (C := Try.checked) false ⟨#[], #[.slice none 0 0], []⟩ 8 (by kernel_rfl) (by kernel_rfl) (by kernel_rfl) (by kernel_rfl)) ?_
  intro W base args ds gs before hval0 hW _ _
  have hval : ∀ (j : Nat) t v, Try.f3.params[j]? = some t → args[j]? = some v → Value.okWide Try.prog W .any base t v := hval0
  have hW' := hW
  obtain ⟨p, q, hA0, hV, rfl, _, _⟩ := hW
  have hA : DataW.TrodAll enc Try.prog W 0 (fun _ => true) true Try.f3.params.toList args.toList ds p := hA0
  rw [Try.params3] at hA hval
  obtain ⟨v0, vs0, d0, ds0, p0, q0, hargs, rfl, rfl, h0, r0⟩ := trodAll_cons hA
  obtain ⟨rfl, rfl, rfl⟩ := trodAll_nil r0
  obtain rfl : args = #[v0] := by cases args; simp_all
  obtain ⟨A0, n0, c0, rfl, g0⟩ := open_code_arg (hval 0 22 v0 rfl rfl) h0
  refine (law A0 n0 c0 W g0).mono fun e W' ⟨he, hb⟩ => ⟨_, he, ?_⟩
  exact law_post laidOut (by kernel_rfl) rfl (by kernel_rfl) Try.underlying4 rfl rfl rfl hW' hb
theorem holds : Rows.FnLocksSaid :=
  OpenClaim.holds_of_wide 3 Try.f3 rfl rfl rfl rfl rfl rfl rfl ⟨rfl, rfl, rfl, rfl, rfl⟩ rfl rfl rfl rfl rfl (by kernel_rfl) Try.func3 (by kernel_rfl)
    (of_decide_eq_true (by kernel_rfl)) (by unfold Func.isWrapper; first | (rw [if_pos (by decide +kernel)]; kernel_rfl) | (rw [if_neg (by decide +kernel)]; exact ⟨rfl, rfl⟩))
    (fun os started H enc _ => lifted os started H enc)
end Go.Proofs.Ytlddampjbmklkaa.lawLocks
