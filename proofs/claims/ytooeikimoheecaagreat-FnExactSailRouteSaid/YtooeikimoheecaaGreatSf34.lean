
/- What ExactSailRoute and ExactFirstSail rests on, part 34: contracts and mathematics. -/
import Derived.Test.YtooeikimoheecaaGreatSf31
import Derived.Test.YtooeikimoheecaaGreatSf30
import Derived.Test.YtooeikimoheecaaGreatSf26
import Derived.Test.YtooeikimoheecaaGreatSf7
import Derived.Test.YtooeikimoheecaaGreatSf17
import Derived.Test.YtooeikimoheecaaGreatSf14
import Derived.Test.YtooeikimoheecaaGreatSf6
import Derived.Test.YtooeikimoheecaaGreatSf1
import Derived.Test.YtooeikimoheecaaGreatSf4
import Derived.StillTailTactics
import Derived.Deep.DeepCutAuto
import Derived.Test.YtooeikimoheecaaGreatSf21
import Derived.Test.YtooeikimoheecaaGreatSf12
namespace Go.Proofs.YtooeikimoheecaaGreat
open Go.RowKit
set_option maxRecDepth 100000
set_option maxHeartbeats 8000000 in
theorem l08Sail_any (yd0 yd1 : Value) (d : ChartD) (s : ShipD) (yt : Value) (t : List Int) (yr : Value) (r : List Int) (yu : Value) (u : List WinR) (st : Int) (f : ForecastD) (fr : Int) (w : World) (rd : RdChart w yd0 yd1 d) (rt : SlInt w yt t) (rr : SlInt w yr r) (ru : RdWins w yu u) (fd : ∀ x ∈ d.points, PointD.wf x) (fs : s.wf) (hp : sailPre f d s fr r = true) (hpt : rteL d fr r = t) (hrows : u.map WinR.sure = winsL f d s r) :
    Calls Tryz.prog 50 #[.agg #[yd0, yd1], s.val, yt, yr, yu, .int .i64 st] w (SailPost (sailO f d s fr r st) w) := by
  have Rd := Lib.hid rd
  obtain ⟨rd0, rd1⟩ := rd
  obtain ⟨Ad0, cd0, rfl⟩ := SlOf.form rd0
  obtain ⟨Ad1, cd1, rfl⟩ := SlOf.form rd1
  have Nd := Lib.hid fd
  clear fd
  clear rd0 rd1
  have Ns := Lib.hid fs
  clear fs
  have Rt := Lib.hid rt
  obtain ⟨At, ct, rfl⟩ := SlOf.form rt
  clear rt
  have Rr := Lib.hid rr
  obtain ⟨Ar, cr, rfl⟩ := SlOf.form rr
  clear rr
  have Ru := Lib.hid ru
  obtain ⟨Au, cu, rfl⟩ := SlOf.form ru.1
  clear ru
  obtain ⟨W0, hW0⟩ : ∃ W0, W0 = ((w.alloc (.cells #[.slice Ad0 d.points.length cd0, .slice Ad1 d.segs.length cd1] 49)).alloc (.cells #[.string s.name, .int .i64 s.length, .int .i64 s.draught, .int .i64 s.line, .int .i64 s.tugs, .bool s.slow] 65)) := ⟨_, rfl⟩
  have B := Lib.hid ((Joins.below_alloc1 w (.cells #[.slice Ad0 d.points.length cd0, .slice Ad1 d.segs.length cd1] 49)).trans ((Joins.below_alloc1 (w.alloc (.cells #[.slice Ad0 d.points.length cd0, .slice Ad1 d.segs.length cd1] 49)) (.cells #[.string s.name, .int .i64 s.length, .int .i64 s.draught, .int .i64 s.line, .int .i64 s.tugs, .bool s.slow] 65)).mono (by simp; try omega)))
  have Kd := Lib.hid ((Blk.new w #[.slice Ad0 d.points.length cd0, .slice Ad1 d.segs.length cd1] 49).below (Joins.below_alloc1 _ (.cells #[.string s.name, .int .i64 s.length, .int .i64 s.draught, .int .i64 s.line, .int .i64 s.tugs, .bool s.slow] 65)))
  have Ks := Lib.hid (Blk.new (w.alloc (.cells #[.slice Ad0 d.points.length cd0, .slice Ad1 d.segs.length cd1] 49)) #[.string s.name, .int .i64 s.length, .int .i64 s.draught, .int .i64 s.line, .int .i64 s.tugs, .bool s.slow] 65)
  rw [World.size_alloc] at Ks
  have HW0 := Lib.hid hW0
  rw [← hW0] at B Kd Ks
  clear hW0
  have hdl := Rd.out.2.1
  have hrl := Rr.out.1
  have hul := Ru.out.1.1
  have HP := Lib.hid hp
  have hro : routeB d fr r = true := by
    have := hp
    unfold sailPre at this
    simp only [Bool.and_eq_true] at this
    exact this.1.2
  obtain ⟨n, hn⟩ : ∃ n, r.length = n + 1 := by
    have h9 := hp
    unfold sailPre at h9
    simp only [Bool.and_eq_true, Bool.not_eq_true'] at h9
    cases hr : r with
    | nil => have := h9.2; rw [hr] at this; cases this
    | cons x l => exact ⟨l.length, rfl⟩
  have HRN := Lib.hid hn
  have hr0 : 0 < r.length := by omega
  clear hn
  obtain ⟨hcb, hpl, hpin, hsin⟩ := route_facts hro
  rw [hpt] at hpl hpin
  have HPL := Lib.hid hpl
  have HPI := Lib.hid hpin
  have HSI := Lib.hid hsin
  have HCB := Lib.hid hcb
  have E0 := Lib.hid (show sailO f d s fr r st = sailTo d s t r (winsL f d s r) st r.length by rw [sailO_ok hp, hpt])
  have HR := Lib.hid hrows
  have hrl2 : u.length = r.length := by have := congrArg List.length hrows; unfold winsL at this; rw [List.length_map, List.length_map] at this; exact this
  have HRL := Lib.hid hrl2
  have hrul : 0 < u.length := by omega
  have HAT := Lib.hid (show ∀ (k : Nat) (x : WinR), u[k]? = some x → (winsL f d s r)[k]? = some x.sure from fun k x hx => by rw [← HR.out, List.getElem?_map, hx]; rfl)
  have HWK := Lib.hid (show ∀ (k : Nat) (x : WinR), u[k]? = some x → WOk x.sure from fun k x hx => by
      have h1 := HAT.out k x hx
      unfold winsL at h1
      rw [List.getElem?_map] at h1
      cases hrk : r[k]? with
      | none => rw [hrk] at h1; cases h1
      | some i => rw [hrk] at h1; injection h1 with e; rw [← e]; exact starts_wok false f d i s)
  have hrs := Ru.out.2
  have HRS := Lib.hid hrs
  rcases Ru.out.1.2 with ⟨he, _⟩ | ⟨gu, ou, ku, e, upos, ucap, uc⟩
  · rw [he] at hrul; simp at hrul
  injection e with hA' _ hcp'
  subst hA' hcp'
  have UC := Lib.hid (WinR.at uc)
  obtain ⟨⟨xv0, L0⟩, hx0⟩ : ∃ x, u[0]? = some x := ⟨_, List.getElem?_eq_getElem hrul⟩
  obtain ⟨Ax0, cx0, hxv0⟩ : ∃ A c, xv0 = .slice A L0.length c := SlOf.form (HRS.out _ (List.mem_of_getElem? hx0))
  subst hxv0
  have yu := cell_onV (UC.out 0 _ hx0) B.out
  rw [Nat.add_zero] at yu
  dsimp only at yu
  have HX0 := Lib.hid hx0
  have SX0 := Lib.hid (show SlWindow W0 (.slice Ax0 L0.length cx0) L0 from (HRS.out _ (List.mem_of_getElem? hx0)).below B.out)
  obtain ⟨h0, hh0⟩ : ∃ b, hasB L0 st = b := ⟨_, rfl⟩
  have HH := Lib.hid hh0
  have HW0' := Lib.hid (show hasB ((winsL f d s r).getD 0 []) st = h0 by rw [getD_at (HAT.out 0 _ hx0)]; exact hh0)
  clear hp hpt hrows hro hpl hpin hsin hcb hrl2 hrs uc hx0 hh0
  go_enter Tryz.func50, Tryz.ntmps50
  go_upto_region 1 with fail
  rw [← HW0.out]
  go_wp2_with fail
  refine (specHasMinute _ L0 st _ SX0.out).mono ?_
  rw [HH.out]
  rintro e w1 ⟨rfl, hb1⟩
  have B1 := Lib.hid (B.out.trans (hb1.mono B.out.size))
  have Kd_1 := Lib.hid (Kd.out.below hb1)
  have Ks_1 := Lib.hid (Ks.out.below hb1)
  have hbw1 := Lib.hid hb1
  clear hb1
  clear yu
  cases h0 with
  | false =>
    have E := Lib.hid (show sailO f d s fr r st = none by rw [E0.out]; exact sailTo_first HW0'.out _)
    go_wp2
    refine bodyPost_ret (v := .tuple #[.slice none 0 0, .bool false]) (by simp [results, Tryz.results50, go_sem, *]) rfl (SailPost.no E.out B1.out)
  | true =>
  have hst := Has.time (HWK.out 0 _ HX0.out) ((has_iff _ _).1 HH.out)
  obtain ⟨st0, st1⟩ := hst
  go_upto_region 4 with fail
  have GM := Lib.hid (GathO.one (k := 1) (cs := intCells) (t := 3) (w := W0) (wr := w1) (x := st) hbw1.out rfl)
  have hz1 := hbw1.out.size
  rw [show (intCells st).toArray = #[.int .i64 st] from rfl] at GM
  obtain ⟨wb, hwb⟩ : ∃ wb, wb = w1.alloc (.cells #[.int .i64 st] 3) := ⟨_, rfl⟩
  rw [← hwb] at GM ⊢
  clear hwb
  go_wp2
  go_loopw [14, 15] (fun q i wr => ∃ (k : Nat) (out : List Int), k + 1 ≤ r.length ∧ out.length = k + 1 ∧ i = .int .i64 ((k + 1 : Nat) : Int) ∧ Hid (sailTo d s t r (winsL f d s r) st (k + 1) = some out) ∧ Hid (∀ m ∈ out, 0 ≤ m ∧ m ≤ 2880) ∧ Hid (GathO 1 intCells 3 W0 q out wr)) (fun _ i _ => r.length - (intOf i).toNat)
  case atStart => exact ⟨0, [st], by omega, rfl, rfl, Lib.hid (by show (if hasB ((winsL f d s r).getD 0 []) st = true then some [st] else none) = some [st]; rw [if_pos HW0'.out]), Lib.hid (fun m hm => by simp at hm; subst hm; exact ⟨st0, st1⟩), GM⟩
  case round =>
    clear GM
    obtain ⟨k, out, hk, hol, rfl, hP, hM, hG⟩ := hrel
    have HOL := Lib.hid hol
    obtain ⟨Qa, Qc, rfl⟩ := hG.out.form
    have hsz := hG.out.size
    have BR := Lib.hid (B.out.trans (hG.out.2.mono B.out.size))
    have Kd_r := Lib.hid (Kd.out.below hG.out.2)
    have Ks_r := Lib.hid (Ks.out.below hG.out.2)
    by_cases hlt : k + 1 < r.length
    rotate_left
    · have hke : k + 1 = r.length := by omega
      have E := Lib.hid (show sailO f d s fr r st = some out by rw [E0.out, ← hke]; exact hP.out)
      have OW := Lib.hid (own_lo hG.out.1 (base' := w.heap.size) B.out.size)
      clear hol
      go_wp2
      refine bodyPost_ret (v := .tuple #[.slice Qa out.length Qc, .bool true]) (by simp [results, Tryz.results50, go_sem, *]) rfl (SailPost.yes E.out OW.out BR.out)
    have hob : out.length ≤ 1000000000 := by omega
    have hko : k < out.length := by omega
    clear hol
    obtain ⟨m, hm⟩ : ∃ x, out[k]? = some x := ⟨_, List.getElem?_eq_getElem hko⟩
    have hkr : k < r.length := by omega
    obtain ⟨i, hi⟩ : ∃ x, r[k]? = some x := ⟨_, List.getElem?_eq_getElem hkr⟩
    have hkt : k + 1 < t.length := by have := HPL.out; omega
    obtain ⟨p, hp⟩ : ∃ x, t[k + 1]? = some x := ⟨_, List.getElem?_eq_getElem hkt⟩
    have hku : k + 1 < u.length := by have := HRL.out; omega
    obtain ⟨⟨xv, L⟩, hx⟩ : ∃ x, u[k + 1]? = some x := ⟨_, List.getElem?_eq_getElem hku⟩
    obtain ⟨Ax, cx, hxv⟩ : ∃ A c, xv = .slice A L.length c := SlOf.form (HRS.out _ (List.mem_of_getElem? hx))
    subst hxv
    obtain ⟨m0, m1⟩ := hM.out m (List.mem_of_getElem? hm)
    obtain ⟨p0, p1⟩ := HPI.out p (List.mem_of_getElem? hp)
    obtain ⟨g, hg, hgx, li0, lil⟩ := HSI.out i (List.mem_of_getElem? hi)
    obtain ⟨-, -, -, -, -, -, -, gm0, gm1⟩ := segB_true (chartB_seg HCB.out hgx)
    have HNX := Lib.hid (sailTo_next hP.out hm hp (HAT.out (k + 1) _ hx) hi hg)
    obtain ⟨kk, rfl⟩ : ∃ kk : Nat, i = (kk : Int) := ⟨i.toNat, by omega⟩
    simp only [Int.toNat_natCast] at hgx lil
    obtain ⟨kp, rfl⟩ : ∃ kp : Nat, p = (kp : Int) := ⟨p.toNat, by omega⟩
    have hkp : kp < d.points.length := by omega
    obtain ⟨y, hy⟩ : ∃ y, d.points[kp]? = some y := ⟨_, List.getElem?_eq_getElem hkp⟩
    have HWT := Lib.hid (show waitAt d (kp : Int) = y.wait by unfold waitAt; rw [Int.toNat_natCast, hy])
    obtain ⟨gq, cq, e, yq⟩ := own_int_at hG.out.1 hm
    injection e with hA' _ hcp'
    subst hA' hcp'
    rcases Rr.out.2 with ⟨he, _⟩ | ⟨gr, or', kr, e, rpos, rcap, rc⟩
    · rw [he] at hkr; simp at hkr
    injection e with hA' _ hcp'
    subst hA' hcp'
    rcases Rt.out.2 with ⟨he, _⟩ | ⟨gt, ot, kt, e, tpos, tcap, tc⟩
    · rw [he] at hkt; simp at hkt
    injection e with hA' _ hcp'
    subst hA' hcp'
    rcases Rd.out.2.2 with ⟨he, _⟩ | ⟨g', o', c', e, dpos, dcap, dc⟩
    · rw [he] at lil; simp at lil
    injection e with hA' _ hcp'
    subst hA' hcp'
    obtain ⟨q0, q1, q2, q3, q4⟩ := SlSegment.cells dc kk g hgx
    rcases Rd.out.1.2 with ⟨he, _⟩ | ⟨gp, op, cp, e, ppos, pcap, pc⟩
    · rw [he] at hkp; simp at hkp
    injection e with hA' _ hcp'
    subst hA' hcp'
    obtain ⟨e0, e1⟩ := SlPoint.cells pc kp y hy
    have yr := SlInt.cells rc k _ hi
    have yt := SlInt.cells tc (k + 1) _ hp
    have yx : w.cell? ⟨gu, ou + (k + 1), none⟩ = some (.slice Ax L.length cx) := UC.out (k + 1) _ hx
    have SX := Lib.hid (show SlWindow w (.slice Ax L.length cx) L from HRS.out _ (List.mem_of_getElem? hx))
    have Zyr := Lib.hid yr
    have Zyt := Lib.hid yt
    have Zyx := Lib.hid yx
    have Zq0 := Lib.hid q0
    have Zq1 := Lib.hid q1
    have Zq2 := Lib.hid q2
    have Zq3 := Lib.hid q3
    have Zq4 := Lib.hid q4
    have Ze0 := Lib.hid e0
    have Ze1 := Lib.hid e1
    have ZQ := Lib.hid yq
    have NXM := Lib.hid (next_le (l := L) (t := m + onMin g s))
    clear yr yt yx q0 q1 q2 q3 q4 e0 e1 yq dc pc rc tc hi hp hx hy hg hgx hm li0 p0 p1
    obtain ⟨om0, om1⟩ : 0 ≤ onMin g s ∧ onMin g s ≤ 480 := by unfold onMin; split <;> omega
    have wk : IntKind.i64.wrap (((k + 1 : Nat) : Int) - 1) = (k : Int) := by rw [IntKind.wrap_i64]; omega
    have ik0 : (0 : Int) ≤ (k : Int) + 1 := by omega
    have ik1 : (k : Int) + 1 < (t.length : Int) := by omega
    have wkk : IntKind.i64.wrap (k : Int) = (k : Int) := by rw [IntKind.wrap_i64]; omega
    have wsum : IntKind.i64.wrap (m + onMin g s) = m + onMin g s := by rw [IntKind.wrap_i64]; omega
    have GQ := Lib.hid (show wr.cell? ⟨gq, k, none⟩ = some (.int .i64 m) from ZQ.out)
    have GR := Lib.hid (show wr.cell? ⟨gr, or' + k, none⟩ = some (.int .i64 (kk : Int)) from cell_onV Zyr.out BR.out)
    have GS0 := Lib.hid (show wr.cell? ⟨g', o' + kk * 5, none⟩ = some (.int .i64 g.a) from cell_onV Zq0.out BR.out)
    have GS1 := Lib.hid (show wr.cell? ⟨g', o' + kk * 5 + 1, none⟩ = some (.int .i64 g.b) from cell_onV Zq1.out BR.out)
    have GS2 := Lib.hid (show wr.cell? ⟨g', o' + kk * 5 + 2, none⟩ = some (.int .i64 g.depth) from cell_onV Zq2.out BR.out)
    have GS3 := Lib.hid (show wr.cell? ⟨g', o' + kk * 5 + 3, none⟩ = some (.int .i64 g.minutes) from cell_onV Zq3.out BR.out)
    have GS4 := Lib.hid (show wr.cell? ⟨g', o' + kk * 5 + 4, none⟩ = some (.bool g.meet) from cell_onV Zq4.out BR.out)
    have Fd0 := Lib.hid (show wr.cell? ⟨w.heap.size, 0, none⟩ = some (.slice (some ⟨gp, op, none⟩) d.points.length cd0) from Kd_r.out.cell 0)
    have Fd1 := Lib.hid (show wr.cell? ⟨w.heap.size, 1, none⟩ = some (.slice (some ⟨g', o', none⟩) d.segs.length cd1) from Kd_r.out.cell 1)
    have Fs0 := Lib.hid (show wr.cell? ⟨w.heap.size + 1, 0, none⟩ = some (.string s.name) from Ks_r.out.cell 0)
    have Fs1 := Lib.hid (show wr.cell? ⟨w.heap.size + 1, 1, none⟩ = some (.int .i64 s.length) from Ks_r.out.cell 1)
    have Fs2 := Lib.hid (show wr.cell? ⟨w.heap.size + 1, 2, none⟩ = some (.int .i64 s.draught) from Ks_r.out.cell 2)
    have Fs3 := Lib.hid (show wr.cell? ⟨w.heap.size + 1, 3, none⟩ = some (.int .i64 s.line) from Ks_r.out.cell 3)
    have Fs4 := Lib.hid (show wr.cell? ⟨w.heap.size + 1, 4, none⟩ = some (.int .i64 s.tugs) from Ks_r.out.cell 4)
    have Fs5 := Lib.hid (show wr.cell? ⟨w.heap.size + 1, 5, none⟩ = some (.bool s.slow) from Ks_r.out.cell 5)
    have DD := Lib.hid ((Below.refl wr.heap.size wr).drew)
    have vFd0 := Fd0.out
    have vFd1 := Fd1.out
    have vFs0 := Fs0.out
    have vFs1 := Fs1.out
    have vFs2 := Fs2.out
    have vFs3 := Fs3.out
    have vFs4 := Fs4.out
    have vFs5 := Fs5.out
    have vGQ := GQ.out
    have vGR := GR.out
    have vGS0 := GS0.out
    have vGS1 := GS1.out
    have vGS2 := GS2.out
    have vGS3 := GS3.out
    have vGS4 := GS4.out
    go_upto_region 7 with fail
    refine wp_region_held_drew (S := (fun w' => w'.cell? ⟨w.heap.size, 0, none⟩ = some (.slice (some ⟨gp, op, none⟩) d.points.length cd0) ∧ w'.cell? ⟨w.heap.size, 1, none⟩ = some (.slice (some ⟨g', o', none⟩) d.segs.length cd1) ∧ w'.cell? ⟨w.heap.size + 1, 0, none⟩ = some (.string s.name) ∧ w'.cell? ⟨w.heap.size + 1, 1, none⟩ = some (.int .i64 s.length) ∧ w'.cell? ⟨w.heap.size + 1, 2, none⟩ = some (.int .i64 s.draught) ∧ w'.cell? ⟨w.heap.size + 1, 3, none⟩ = some (.int .i64 s.line) ∧ w'.cell? ⟨w.heap.size + 1, 4, none⟩ = some (.int .i64 s.tugs) ∧ w'.cell? ⟨w.heap.size + 1, 5, none⟩ = some (.bool s.slow) ∧ w'.cell? ⟨gq, k, none⟩ = some (.int .i64 m) ∧ w'.cell? ⟨gr, or' + k, none⟩ = some (.int .i64 (kk : Int)) ∧ w'.cell? ⟨g', o' + kk * 5, none⟩ = some (.int .i64 g.a) ∧ w'.cell? ⟨g', o' + kk * 5 + 1, none⟩ = some (.int .i64 g.b) ∧ w'.cell? ⟨g', o' + kk * 5 + 2, none⟩ = some (.int .i64 g.depth) ∧ w'.cell? ⟨g', o' + kk * 5 + 3, none⟩ = some (.int .i64 g.minutes) ∧ w'.cell? ⟨g', o' + kk * 5 + 4, none⟩ = some (.bool g.meet) ∧ Hid (Below wr.heap.size wr w'))) (by kernel_rfl) ?_ (fun hHeld => ?_)
    · (try dsimp only); go_keep
    refine wpAnyH_take (i := 0) (v := ?_) (by simp only [List.getElem?_toArray, List.getElem?_cons_zero]; rfl) (by kernel_rfl) (by kernel_rfl) (by kernel_rfl) (by exact fun _ _ _ h => h) (Or.inl ⟨by rfl, ?_⟩) (by assumption) ?_; rotate_left; focus (intro w hSw; (try dsimp only at hSw); first | (go_simp; done) | (go_simp; with_reducible rfl))
    try simp only [Act.put, List.setIfInBounds_toArray, List.set_cons_zero, List.set_cons_succ]
    refine wpAnyH_take (i := 1) (v := ?_) (by simp only [List.getElem?_toArray, List.getElem?_cons_succ, List.getElem?_cons_zero]; rfl) (by kernel_rfl) (by kernel_rfl) (by kernel_rfl) (by exact fun _ _ _ h => h) (Or.inl ⟨by rfl, ?_⟩) (by assumption) ?_; rotate_left; focus (intro w hSw; (try dsimp only at hSw); first | (go_simp; done) | (go_simp; with_reducible rfl))
    try simp only [Act.put, List.setIfInBounds_toArray, List.set_cons_zero, List.set_cons_succ]
    refine wpAnyH_take (i := 2) (v := ?_) (by simp only [List.getElem?_toArray, List.getElem?_cons_succ, List.getElem?_cons_zero]; rfl) (by kernel_rfl) (by kernel_rfl) (by kernel_rfl) (by exact fun _ _ _ h => h) (Or.inl ⟨by rfl, ?_⟩) (by assumption) ?_; rotate_left; focus (intro w hSw; (try dsimp only at hSw); first | (go_simp; done) | (go_simp; with_reducible rfl))
    try simp only [Act.put, List.setIfInBounds_toArray, List.set_cons_zero, List.set_cons_succ]
    refine wpAnyH_take (i := 3) (v := ?_) (by simp only [List.getElem?_toArray, List.getElem?_cons_succ, List.getElem?_cons_zero]; rfl) (by kernel_rfl) (by kernel_rfl) (by kernel_rfl) (by exact fun _ _ _ h => h) (Or.inl ⟨by rfl, ?_⟩) (by assumption) ?_; rotate_left; focus (intro w hSw; (try dsimp only at hSw); first | (go_simp; done) | (go_simp; with_reducible rfl))
    try simp only [Act.put, List.setIfInBounds_toArray, List.set_cons_zero, List.set_cons_succ]
    refine wpAnyH_take (i := 4) (v := ?_) (by simp only [List.getElem?_toArray, List.getElem?_cons_succ, List.getElem?_cons_zero]; rfl) (by kernel_rfl) (by kernel_rfl) (by kernel_rfl) (by exact fun _ _ _ h => h) (Or.inl ⟨by rfl, ?_⟩) (by assumption) ?_; rotate_left; focus (intro w hSw; (try dsimp only at hSw); first | (go_simp; done) | (go_simp; with_reducible rfl))
    try simp only [Act.put, List.setIfInBounds_toArray, List.set_cons_zero, List.set_cons_succ]
    refine wpAnyH_take (i := 5) (v := ?_) (by simp only [List.getElem?_toArray, List.getElem?_cons_succ, List.getElem?_cons_zero]; rfl) (by kernel_rfl) (by kernel_rfl) (by kernel_rfl) (by exact fun _ _ _ h => h) (Or.inl ⟨by rfl, ?_⟩) (by assumption) ?_; rotate_left; focus (intro w hSw; (try dsimp only at hSw); first | (go_simp; done) | (go_simp; with_reducible rfl))
    try simp only [Act.put, List.setIfInBounds_toArray, List.set_cons_zero, List.set_cons_succ]
    refine wpAnyH_take (i := 6) (v := ?_) (by simp only [List.getElem?_toArray, List.getElem?_cons_succ, List.getElem?_cons_zero]; rfl) (by kernel_rfl) (by kernel_rfl) (by kernel_rfl) (by exact fun _ _ _ h => h) (Or.inl ⟨by rfl, ?_⟩) (by assumption) ?_; rotate_left; focus (intro w hSw; (try dsimp only at hSw); first | (go_simp; done) | (go_simp; with_reducible rfl))
    try simp only [Act.put, List.setIfInBounds_toArray, List.set_cons_zero, List.set_cons_succ]
    refine wpAnyH_take (i := 7) (v := ?_) (by simp only [List.getElem?_toArray, List.getElem?_cons_succ, List.getElem?_cons_zero]; rfl) (by kernel_rfl) (by kernel_rfl) (by kernel_rfl) (by exact fun _ _ _ h => h) (Or.inl ⟨by rfl, ?_⟩) (by assumption) ?_; rotate_left; focus (intro w hSw; (try dsimp only at hSw); first | (go_simp; done) | (go_simp; with_reducible rfl))
    try simp only [Act.put, List.setIfInBounds_toArray, List.set_cons_zero, List.set_cons_succ]
    refine wpAnyH_take (i := 8) (v := ?_) (by simp only [List.getElem?_toArray, List.getElem?_cons_succ, List.getElem?_cons_zero]; rfl) (by kernel_rfl) (by kernel_rfl) (by kernel_rfl) (by exact fun _ _ _ h => h) (Or.inl ⟨by rfl, ?_⟩) (by assumption) ?_; rotate_left; focus (intro w hSw; (try dsimp only at hSw); first | (go_simp; done) | (go_simp; with_reducible rfl))
    try simp only [Act.put, List.setIfInBounds_toArray, List.set_cons_zero, List.set_cons_succ]
    refine wpAnyH_take (i := 9) (v := ?_) (by simp only [List.getElem?_toArray, List.getElem?_cons_succ, List.getElem?_cons_zero]; rfl) (by kernel_rfl) (by kernel_rfl) (by kernel_rfl) (by exact fun _ _ _ h => h) (Or.inl ⟨by rfl, ?_⟩) (by assumption) ?_; rotate_left; focus (intro w hSw; (try dsimp only at hSw); first | (go_simp; done) | (go_simp; with_reducible rfl))
    try simp only [Act.put, List.setIfInBounds_toArray, List.set_cons_zero, List.set_cons_succ]
    refine wpAnyH_take (i := 10) (v := ?_) (by simp only [List.getElem?_toArray, List.getElem?_cons_succ, List.getElem?_cons_zero]; rfl) (by kernel_rfl) (by kernel_rfl) (by kernel_rfl) (by exact fun _ _ _ h => h) (Or.inl ⟨by rfl, ?_⟩) (by assumption) ?_; rotate_left; focus (intro w hSw; (try dsimp only at hSw); first | (go_simp; done) | (go_simp; with_reducible rfl))
    try simp only [Act.put, List.setIfInBounds_toArray, List.set_cons_zero, List.set_cons_succ]
    refine wpAnyH_take (i := 11) (v := ?_) (by simp only [List.getElem?_toArray, List.getElem?_cons_succ, List.getElem?_cons_zero]; rfl) (by kernel_rfl) (by kernel_rfl) (by kernel_rfl) (by exact fun _ _ _ h => h) (Or.inl ⟨by rfl, ?_⟩) (by assumption) ?_; rotate_left; focus (intro w hSw; (try dsimp only at hSw); first | (go_simp; done) | (go_simp; with_reducible rfl))
    try simp only [Act.put, List.setIfInBounds_toArray, List.set_cons_zero, List.set_cons_succ]
    refine wpAnyH_take (i := 12) (v := ?_) (by simp only [List.getElem?_toArray, List.getElem?_cons_succ, List.getElem?_cons_zero]; rfl) (by kernel_rfl) (by kernel_rfl) (by kernel_rfl) (by exact fun _ _ _ h => h) (Or.inl ⟨by rfl, ?_⟩) (by assumption) ?_; rotate_left; focus (intro w hSw; (try dsimp only at hSw); first | (go_simp; done) | (go_simp; with_reducible rfl))
    try simp only [Act.put, List.setIfInBounds_toArray, List.set_cons_zero, List.set_cons_succ]
    refine wpAnyH_take (i := 13) (v := ?_) (by simp only [List.getElem?_toArray, List.getElem?_cons_succ, List.getElem?_cons_zero]; rfl) (by kernel_rfl) (by kernel_rfl) (by kernel_rfl) (by exact fun _ _ _ h => h) (Or.inl ⟨by rfl, ?_⟩) (by assumption) ?_; rotate_left; focus (intro w hSw; (try dsimp only at hSw); first | (go_simp; done) | (go_simp; with_reducible rfl))
    try simp only [Act.put, List.setIfInBounds_toArray, List.set_cons_zero, List.set_cons_succ]
    refine wpAnyH_take (i := 14) (v := ?_) (by simp only [List.getElem?_toArray, List.getElem?_cons_succ, List.getElem?_cons_zero]; rfl) (by kernel_rfl) (by kernel_rfl) (by kernel_rfl) (by exact fun _ _ _ h => h) (Or.inl ⟨by rfl, ?_⟩) (by assumption) ?_; rotate_left; focus (intro w hSw; (try dsimp only at hSw); first | (go_simp; done) | (go_simp; with_reducible rfl))
    try simp only [Act.put, List.setIfInBounds_toArray, List.set_cons_zero, List.set_cons_succ]
    refine wpAnyH_ready (rs := [15]) (by kernel_rfl) (by simp) ?_
    refine AllReadyH.cons rfl (fun K hK => ?_) AllReadyH.nil
    rw [if_pos (by rfl)]
    go_simp
    go_at_call 86
    have kB := hHeld.2.2.2.2.2.2.2.2.2.2.2.2.2.2.2
    refine ((l06Minutes_any g s _ (by omega) gm1)).mono ?_
    rintro e wq1_15 ⟨rfl, hbk⟩
    have HBK := kB.out.trans (hbk.mono kB.out.size)
    have QS := Lib.hid (show wq1_15.cell? ⟨w.heap.size, 0, none⟩ = some (.slice (some ⟨gp, op, none⟩) d.points.length cd0) ∧ wq1_15.cell? ⟨w.heap.size, 1, none⟩ = some (.slice (some ⟨g', o', none⟩) d.segs.length cd1) ∧ wq1_15.cell? ⟨w.heap.size + 1, 0, none⟩ = some (.string s.name) ∧ wq1_15.cell? ⟨w.heap.size + 1, 1, none⟩ = some (.int .i64 s.length) ∧ wq1_15.cell? ⟨w.heap.size + 1, 2, none⟩ = some (.int .i64 s.draught) ∧ wq1_15.cell? ⟨w.heap.size + 1, 3, none⟩ = some (.int .i64 s.line) ∧ wq1_15.cell? ⟨w.heap.size + 1, 4, none⟩ = some (.int .i64 s.tugs) ∧ wq1_15.cell? ⟨w.heap.size + 1, 5, none⟩ = some (.bool s.slow) ∧ wq1_15.cell? ⟨gq, k, none⟩ = some (.int .i64 m) ∧ wq1_15.cell? ⟨gr, or' + k, none⟩ = some (.int .i64 (kk : Int)) ∧ wq1_15.cell? ⟨g', o' + kk * 5, none⟩ = some (.int .i64 g.a) ∧ wq1_15.cell? ⟨g', o' + kk * 5 + 1, none⟩ = some (.int .i64 g.b) ∧ wq1_15.cell? ⟨g', o' + kk * 5 + 2, none⟩ = some (.int .i64 g.depth) ∧ wq1_15.cell? ⟨g', o' + kk * 5 + 3, none⟩ = some (.int .i64 g.minutes) ∧ wq1_15.cell? ⟨g', o' + kk * 5 + 4, none⟩ = some (.bool g.meet) ∧ Hid (Below wr.heap.size wr wq1_15) from ⟨cell_onV Fd0.out HBK, cell_onV Fd1.out HBK, cell_onV Fs0.out HBK, cell_onV Fs1.out HBK, cell_onV Fs2.out HBK, cell_onV Fs3.out HBK, cell_onV Fs4.out HBK, cell_onV Fs5.out HBK, cell_onV GQ.out HBK, cell_onV GR.out HBK, cell_onV GS0.out HBK, cell_onV GS1.out HBK, cell_onV GS2.out HBK, cell_onV GS3.out HBK, cell_onV GS4.out HBK, Lib.hid HBK⟩)
    clear hbk kB hHeld HBK
    go_simp
    refine hK.out _ _ ?_ (fun hHeld => ?_)
    · (try dsimp only); exact QS.out
    clear hK K
    try simp only [Act.put, List.setIfInBounds_toArray, List.set_cons_zero, List.set_cons_succ]
    refine wpAnyH_take (i := 16) (v := ?_) (by simp only [List.getElem?_toArray, List.getElem?_cons_succ, List.getElem?_cons_zero]; rfl) (by kernel_rfl) (by kernel_rfl) (by kernel_rfl) (by exact fun _ _ _ h => h) (Or.inl ⟨by rfl, ?_⟩) (by assumption) ?_; rotate_left; focus (intro w hSw; (try dsimp only at hSw); first | (go_simp; done) | (go_simp; with_reducible rfl))
    try simp only [Act.put, List.setIfInBounds_toArray, List.set_cons_zero, List.set_cons_succ]
    refine wpAnyH_take (i := 17) (v := ?_) (by simp only [List.getElem?_toArray, List.getElem?_cons_succ, List.getElem?_cons_zero]; rfl) (by kernel_rfl) (by kernel_rfl) (by kernel_rfl) (by exact fun _ _ _ h => h) (Or.inl ⟨by rfl, ?_⟩) (by assumption) ?_; rotate_left; focus (intro w hSw; (try dsimp only at hSw); first | (go_simp; done) | (go_simp; with_reducible rfl))
    try simp only [Act.put, List.setIfInBounds_toArray, List.set_cons_zero, List.set_cons_succ]
    refine wpAnyH_done (by kernel_rfl) ?_ _
    have BK := Lib.hid hHeld.2.2.2.2.2.2.2.2.2.2.2.2.2.2.2.out
    have B7 := Lib.hid (BR.out.trans (BK.out.mono BR.out.size))
    have G7 := Lib.hid (hG.out.below BK.out)
    have Kd_7 := Lib.hid (Kd_r.out.below BK.out)
    have Ks_7 := Lib.hid (Ks_r.out.below BK.out)
    clear hHeld DD hG
    obtain ⟨nx, hnx⟩ : ∃ z, nextI L (m + onMin g s) = z := ⟨_, rfl⟩
    have HNX2 := Lib.hid hnx
    have yx7 := cell_onV Zyx.out B7.out
    go_wp2_with fail
    refine (specNextMinute _ L _ _ (SX.out.below B7.out)).mono ?_
    rw [HNX2.out]
    rintro e w8 ⟨rfl, hb8⟩
    have B8 := Lib.hid (B7.out.trans (hb8.mono B7.out.size))
    have Kd_8 := Lib.hid (Kd_7.out.below hb8)
    have Ks_8 := Lib.hid (Ks_7.out.below hb8)
    have G8 := Lib.hid (G7.out.below hb8)
    clear hb8
    clear yx7
    obtain ⟨atm, hatm⟩ : ∃ z, m + onMin g s = z := ⟨_, rfl⟩
    rw [hatm] at HNX hnx NXM ⊢
    have HAM := Lib.hid hatm
    have GT := Lib.hid (show w8.cell? ⟨gt, ot + (k + 1), none⟩ = some (.int .i64 (kp : Int)) from cell_onV Zyt.out B8.out)
    have GP0 := Lib.hid (show w8.cell? ⟨gp, op + kp * 2, none⟩ = some (.string y.name) from cell_onV Ze0.out B8.out)
    have GP1 := Lib.hid (show w8.cell? ⟨gp, op + kp * 2 + 1, none⟩ = some (.bool y.wait) from cell_onV Ze1.out B8.out)
    skip
    by_cases c1 : nx < 0
    · have E := Lib.hid (show sailO f d s fr r st = none by rw [E0.out]; refine sailTo_none (k := k + 1) ?_ r.length (by omega); rw [HNX.out, goOn_no hnx c1])
      have c1' : decide (nx < 0) = true := decide_eq_true c1
      clear hatm hnx
      have Fd0 := Lib.hid (show w8.cell? ⟨w.heap.size, 0, none⟩ = some (.slice (some ⟨gp, op, none⟩) d.points.length cd0) from Kd_8.out.cell 0)
      have Fd1 := Lib.hid (show w8.cell? ⟨w.heap.size, 1, none⟩ = some (.slice (some ⟨g', o', none⟩) d.segs.length cd1) from Kd_8.out.cell 1)
      have Fs0 := Lib.hid (show w8.cell? ⟨w.heap.size + 1, 0, none⟩ = some (.string s.name) from Ks_8.out.cell 0)
      have Fs1 := Lib.hid (show w8.cell? ⟨w.heap.size + 1, 1, none⟩ = some (.int .i64 s.length) from Ks_8.out.cell 1)
      have Fs2 := Lib.hid (show w8.cell? ⟨w.heap.size + 1, 2, none⟩ = some (.int .i64 s.draught) from Ks_8.out.cell 2)
      have Fs3 := Lib.hid (show w8.cell? ⟨w.heap.size + 1, 3, none⟩ = some (.int .i64 s.line) from Ks_8.out.cell 3)
      have Fs4 := Lib.hid (show w8.cell? ⟨w.heap.size + 1, 4, none⟩ = some (.int .i64 s.tugs) from Ks_8.out.cell 4)
      have Fs5 := Lib.hid (show w8.cell? ⟨w.heap.size + 1, 5, none⟩ = some (.bool s.slow) from Ks_8.out.cell 5)
      have DD := Lib.hid ((Below.refl w8.heap.size w8).drew)
      have vFd0 := Fd0.out
      have vFd1 := Fd1.out
      have vFs0 := Fs0.out
      have vFs1 := Fs1.out
      have vFs2 := Fs2.out
      have vFs3 := Fs3.out
      have vFs4 := Fs4.out
      have vFs5 := Fs5.out
      have vGT := GT.out
      have vGP0 := GP0.out
      have vGP1 := GP1.out
      go_upto_region 9 with fail
      refine wp_region_held_drew (S := (fun w' => w'.cell? ⟨w.heap.size, 0, none⟩ = some (.slice (some ⟨gp, op, none⟩) d.points.length cd0) ∧ w'.cell? ⟨w.heap.size, 1, none⟩ = some (.slice (some ⟨g', o', none⟩) d.segs.length cd1) ∧ w'.cell? ⟨w.heap.size + 1, 0, none⟩ = some (.string s.name) ∧ w'.cell? ⟨w.heap.size + 1, 1, none⟩ = some (.int .i64 s.length) ∧ w'.cell? ⟨w.heap.size + 1, 2, none⟩ = some (.int .i64 s.draught) ∧ w'.cell? ⟨w.heap.size + 1, 3, none⟩ = some (.int .i64 s.line) ∧ w'.cell? ⟨w.heap.size + 1, 4, none⟩ = some (.int .i64 s.tugs) ∧ w'.cell? ⟨w.heap.size + 1, 5, none⟩ = some (.bool s.slow) ∧ w'.cell? ⟨gt, ot + (k + 1), none⟩ = some (.int .i64 (kp : Int)) ∧ w'.cell? ⟨gp, op + kp * 2, none⟩ = some (.string y.name) ∧ w'.cell? ⟨gp, op + kp * 2 + 1, none⟩ = some (.bool y.wait) ∧ Hid (Below w8.heap.size w8 w'))) (by kernel_rfl) ?_ (fun hHeld => ?_)
      · (try dsimp only); go_keep
      refine wpAnyH_take (i := 0) (v := ?_) (by simp only [List.getElem?_toArray, List.getElem?_cons_zero]; rfl) (by kernel_rfl) (by kernel_rfl) (by kernel_rfl) (by exact fun _ _ _ h => h) (Or.inl ⟨by rfl, ?_⟩) (by assumption) ?_; rotate_left; focus (intro w hSw; (try dsimp only at hSw); first | (go_simp; done) | (go_simp; with_reducible rfl))
      try simp only [Act.put, List.setIfInBounds_toArray, List.set_cons_zero, List.set_cons_succ]
      refine wpAnyH_take (i := 1) (v := ?_) (by simp only [List.getElem?_toArray, List.getElem?_cons_succ, List.getElem?_cons_zero]; rfl) (by kernel_rfl) (by kernel_rfl) (by kernel_rfl) (by exact fun _ _ _ h => h) (Or.inl ⟨by rfl, ?_⟩) (by assumption) ?_; rotate_left; focus (intro w hSw; (try dsimp only at hSw); first | (go_simp; done) | (go_simp; with_reducible rfl))
      try simp only [Act.put, List.setIfInBounds_toArray, List.set_cons_zero, List.set_cons_succ]
      refine wpAnyH_take (i := 2) (v := ?_) (by simp only [List.getElem?_toArray, List.getElem?_cons_succ, List.getElem?_cons_zero]; rfl) (by kernel_rfl) (by kernel_rfl) (by kernel_rfl) (by exact fun _ _ _ h => h) (Or.inl ⟨by rfl, ?_⟩) (by assumption) ?_; rotate_left; focus (intro w hSw; (try dsimp only at hSw); first | (go_simp; done) | (go_simp; with_reducible rfl))
      try simp only [Act.put, List.setIfInBounds_toArray, List.set_cons_zero, List.set_cons_succ]
      refine wpAnyH_take (i := 3) (v := undef) (by simp only [List.getElem?_toArray, List.getElem?_cons_succ, List.getElem?_cons_zero]; rfl) (by kernel_rfl) (by kernel_rfl) (by kernel_rfl) (by exact fun _ _ _ h => h) (Or.inr ⟨by rfl, rfl⟩) (by assumption) ?_
      try simp only [Act.put, List.setIfInBounds_toArray, List.set_cons_zero, List.set_cons_succ]
      refine wpAnyH_take (i := 4) (v := undef) (by simp only [List.getElem?_toArray, List.getElem?_cons_succ, List.getElem?_cons_zero]; rfl) (by kernel_rfl) (by kernel_rfl) (by kernel_rfl) (by exact fun _ _ _ h => h) (Or.inr ⟨by rfl, rfl⟩) (by assumption) ?_
      try simp only [Act.put, List.setIfInBounds_toArray, List.set_cons_zero, List.set_cons_succ]
      refine wpAnyH_take (i := 5) (v := undef) (by simp only [List.getElem?_toArray, List.getElem?_cons_succ, List.getElem?_cons_zero]; rfl) (by kernel_rfl) (by kernel_rfl) (by kernel_rfl) (by exact fun _ _ _ h => h) (Or.inr ⟨by rfl, rfl⟩) (by assumption) ?_
      try simp only [Act.put, List.setIfInBounds_toArray, List.set_cons_zero, List.set_cons_succ]
      refine wpAnyH_take (i := 6) (v := undef) (by simp only [List.getElem?_toArray, List.getElem?_cons_succ, List.getElem?_cons_zero]; rfl) (by kernel_rfl) (by kernel_rfl) (by kernel_rfl) (by exact fun _ _ _ h => h) (Or.inr ⟨by rfl, rfl⟩) (by assumption) ?_
      try simp only [Act.put, List.setIfInBounds_toArray, List.set_cons_zero, List.set_cons_succ]
      refine wpAnyH_take (i := 7) (v := undef) (by simp only [List.getElem?_toArray, List.getElem?_cons_succ, List.getElem?_cons_zero]; rfl) (by kernel_rfl) (by kernel_rfl) (by kernel_rfl) (by exact fun _ _ _ h => h) (Or.inr ⟨by rfl, rfl⟩) (by assumption) ?_
      try simp only [Act.put, List.setIfInBounds_toArray, List.set_cons_zero, List.set_cons_succ]
      refine wpAnyH_take (i := 8) (v := undef) (by simp only [List.getElem?_toArray, List.getElem?_cons_succ, List.getElem?_cons_zero]; rfl) (by kernel_rfl) (by kernel_rfl) (by kernel_rfl) (by exact fun _ _ _ h => h) (Or.inr ⟨by rfl, rfl⟩) (by assumption) ?_
      try simp only [Act.put, List.setIfInBounds_toArray, List.set_cons_zero, List.set_cons_succ]
      refine wpAnyH_take (i := 9) (v := undef) (by simp only [List.getElem?_toArray, List.getElem?_cons_succ, List.getElem?_cons_zero]; rfl) (by kernel_rfl) (by kernel_rfl) (by kernel_rfl) (by exact fun _ _ _ h => h) (Or.inr ⟨by rfl, rfl⟩) (by assumption) ?_
      try simp only [Act.put, List.setIfInBounds_toArray, List.set_cons_zero, List.set_cons_succ]
      refine wpAnyH_take (i := 10) (v := undef) (by simp only [List.getElem?_toArray, List.getElem?_cons_succ, List.getElem?_cons_zero]; rfl) (by kernel_rfl) (by kernel_rfl) (by kernel_rfl) (by exact fun _ _ _ h => h) (Or.inr ⟨by rfl, rfl⟩) (by assumption) ?_
      try simp only [Act.put, List.setIfInBounds_toArray, List.set_cons_zero, List.set_cons_succ]
      refine wpAnyH_take (i := 11) (v := undef) (by simp only [List.getElem?_toArray, List.getElem?_cons_succ, List.getElem?_cons_zero]; rfl) (by kernel_rfl) (by kernel_rfl) (by kernel_rfl) (by exact fun _ _ _ h => h) (Or.inr ⟨by rfl, rfl⟩) (by assumption) ?_
      try simp only [Act.put, List.setIfInBounds_toArray, List.set_cons_zero, List.set_cons_succ]
      refine wpAnyH_take (i := 12) (v := undef) (by simp only [List.getElem?_toArray, List.getElem?_cons_succ, List.getElem?_cons_zero]; rfl) (by kernel_rfl) (by kernel_rfl) (by kernel_rfl) (by exact fun _ _ _ h => h) (Or.inr ⟨by rfl, rfl⟩) (by assumption) ?_
      try simp only [Act.put, List.setIfInBounds_toArray, List.set_cons_zero, List.set_cons_succ]
      refine wpAnyH_take (i := 13) (v := undef) (by simp only [List.getElem?_toArray, List.getElem?_cons_succ, List.getElem?_cons_zero]; rfl) (by kernel_rfl) (by kernel_rfl) (by kernel_rfl) (by exact fun _ _ _ h => h) (Or.inr ⟨by rfl, rfl⟩) (by assumption) ?_
      try simp only [Act.put, List.setIfInBounds_toArray, List.set_cons_zero, List.set_cons_succ]
      refine wpAnyH_take (i := 14) (v := undef) (by simp only [List.getElem?_toArray, List.getElem?_cons_succ, List.getElem?_cons_zero]; rfl) (by kernel_rfl) (by kernel_rfl) (by kernel_rfl) (by exact fun _ _ _ h => h) (Or.inr ⟨by rfl, rfl⟩) (by assumption) ?_
      try simp only [Act.put, List.setIfInBounds_toArray, List.set_cons_zero, List.set_cons_succ]
      refine wpAnyH_take (i := 15) (v := undef) (by simp only [List.getElem?_toArray, List.getElem?_cons_succ, List.getElem?_cons_zero]; rfl) (by kernel_rfl) (by kernel_rfl) (by kernel_rfl) (by exact fun _ _ _ h => h) (Or.inr ⟨by rfl, rfl⟩) (by assumption) ?_
      try simp only [Act.put, List.setIfInBounds_toArray, List.set_cons_zero, List.set_cons_succ]
      refine wpAnyH_take (i := 16) (v := undef) (by simp only [List.getElem?_toArray, List.getElem?_cons_succ, List.getElem?_cons_zero]; rfl) (by kernel_rfl) (by kernel_rfl) (by kernel_rfl) (by exact fun _ _ _ h => h) (Or.inr ⟨by rfl, rfl⟩) (by assumption) ?_
      try simp only [Act.put, List.setIfInBounds_toArray, List.set_cons_zero, List.set_cons_succ]
      refine wpAnyH_take (i := 17) (v := undef) (by simp only [List.getElem?_toArray, List.getElem?_cons_succ, List.getElem?_cons_zero]; rfl) (by kernel_rfl) (by kernel_rfl) (by kernel_rfl) (by exact fun _ _ _ h => h) (Or.inr ⟨by rfl, rfl⟩) (by assumption) ?_
      try simp only [Act.put, List.setIfInBounds_toArray, List.set_cons_zero, List.set_cons_succ]
      refine wpAnyH_take (i := 18) (v := ?_) (by simp only [List.getElem?_toArray, List.getElem?_cons_succ, List.getElem?_cons_zero]; rfl) (by kernel_rfl) (by kernel_rfl) (by kernel_rfl) (by exact fun _ _ _ h => h) (Or.inl ⟨by rfl, ?_⟩) (by assumption) ?_; rotate_left; focus (intro w hSw; (try dsimp only at hSw); first | (go_simp; done) | (go_simp; with_reducible rfl))
      try simp only [Act.put, List.setIfInBounds_toArray, List.set_cons_zero, List.set_cons_succ]
      refine wpAnyH_done (by kernel_rfl) ?_ _
      go_wp2
      refine bodyPost_ret (v := .tuple #[.slice none 0 0, .bool false]) (by simp [results, Tryz.results50, go_sem, *]) rfl (SailPost.no E.out (B8.out.trans (hHeld.2.2.2.2.2.2.2.2.2.2.2.out.mono B8.out.size)))
    · have c1' : decide (nx < 0) = false := decide_eq_false c1
      by_cases c2 : nx = atm
      · have c2' : (nx != atm) = false := by simpa using c2
        have C2 := Lib.hid c2
        clear c2
        have P2 := Lib.hid (show sailTo d s t r (winsL f d s r) st (k + 2) = some (out ++ [nx]) by rw [HNX.out, goOn_yes hnx c1 (.inl C2.out)])
        have nx1 := NXM.out (by rw [hnx]; omega)
        rw [hnx] at nx1
        have nx0 : 0 ≤ nx := by omega
        have MB := Lib.hid (show ∀ z ∈ out ++ [nx], 0 ≤ z ∧ z ≤ 2880 from fun z hz => by
            rcases List.mem_append.1 hz with h9 | h9
            · exact hM.out z h9
            · simp at h9; subst h9; exact ⟨nx0, nx1⟩)
        clear hatm hnx
        have Fd0 := Lib.hid (show w8.cell? ⟨w.heap.size, 0, none⟩ = some (.slice (some ⟨gp, op, none⟩) d.points.length cd0) from Kd_8.out.cell 0)
        have Fd1 := Lib.hid (show w8.cell? ⟨w.heap.size, 1, none⟩ = some (.slice (some ⟨g', o', none⟩) d.segs.length cd1) from Kd_8.out.cell 1)
        have Fs0 := Lib.hid (show w8.cell? ⟨w.heap.size + 1, 0, none⟩ = some (.string s.name) from Ks_8.out.cell 0)
        have Fs1 := Lib.hid (show w8.cell? ⟨w.heap.size + 1, 1, none⟩ = some (.int .i64 s.length) from Ks_8.out.cell 1)
        have Fs2 := Lib.hid (show w8.cell? ⟨w.heap.size + 1, 2, none⟩ = some (.int .i64 s.draught) from Ks_8.out.cell 2)
        have Fs3 := Lib.hid (show w8.cell? ⟨w.heap.size + 1, 3, none⟩ = some (.int .i64 s.line) from Ks_8.out.cell 3)
        have Fs4 := Lib.hid (show w8.cell? ⟨w.heap.size + 1, 4, none⟩ = some (.int .i64 s.tugs) from Ks_8.out.cell 4)
        have Fs5 := Lib.hid (show w8.cell? ⟨w.heap.size + 1, 5, none⟩ = some (.bool s.slow) from Ks_8.out.cell 5)
        have DD := Lib.hid ((Below.refl w8.heap.size w8).drew)
        have vFd0 := Fd0.out
        have vFd1 := Fd1.out
        have vFs0 := Fs0.out
        have vFs1 := Fs1.out
        have vFs2 := Fs2.out
        have vFs3 := Fs3.out
        have vFs4 := Fs4.out
        have vFs5 := Fs5.out
        have vGT := GT.out
        have vGP0 := GP0.out
        have vGP1 := GP1.out
        go_upto_region 9 with fail
        refine wp_region_held_drew (S := (fun w' => w'.cell? ⟨w.heap.size, 0, none⟩ = some (.slice (some ⟨gp, op, none⟩) d.points.length cd0) ∧ w'.cell? ⟨w.heap.size, 1, none⟩ = some (.slice (some ⟨g', o', none⟩) d.segs.length cd1) ∧ w'.cell? ⟨w.heap.size + 1, 0, none⟩ = some (.string s.name) ∧ w'.cell? ⟨w.heap.size + 1, 1, none⟩ = some (.int .i64 s.length) ∧ w'.cell? ⟨w.heap.size + 1, 2, none⟩ = some (.int .i64 s.draught) ∧ w'.cell? ⟨w.heap.size + 1, 3, none⟩ = some (.int .i64 s.line) ∧ w'.cell? ⟨w.heap.size + 1, 4, none⟩ = some (.int .i64 s.tugs) ∧ w'.cell? ⟨w.heap.size + 1, 5, none⟩ = some (.bool s.slow) ∧ w'.cell? ⟨gt, ot + (k + 1), none⟩ = some (.int .i64 (kp : Int)) ∧ w'.cell? ⟨gp, op + kp * 2, none⟩ = some (.string y.name) ∧ w'.cell? ⟨gp, op + kp * 2 + 1, none⟩ = some (.bool y.wait) ∧ Hid (Below w8.heap.size w8 w'))) (by kernel_rfl) ?_ (fun hHeld => ?_)
        · (try dsimp only); go_keep
        refine wpAnyH_take (i := 0) (v := ?_) (by simp only [List.getElem?_toArray, List.getElem?_cons_zero]; rfl) (by kernel_rfl) (by kernel_rfl) (by kernel_rfl) (by exact fun _ _ _ h => h) (Or.inl ⟨by rfl, ?_⟩) (by assumption) ?_; rotate_left; focus (intro w hSw; (try dsimp only at hSw); first | (go_simp; done) | (go_simp; with_reducible rfl))
        try simp only [Act.put, List.setIfInBounds_toArray, List.set_cons_zero, List.set_cons_succ]
        refine wpAnyH_take (i := 1) (v := ?_) (by simp only [List.getElem?_toArray, List.getElem?_cons_succ, List.getElem?_cons_zero]; rfl) (by kernel_rfl) (by kernel_rfl) (by kernel_rfl) (by exact fun _ _ _ h => h) (Or.inl ⟨by rfl, ?_⟩) (by assumption) ?_; rotate_left; focus (intro w hSw; (try dsimp only at hSw); first | (go_simp; done) | (go_simp; with_reducible rfl))
        try simp only [Act.put, List.setIfInBounds_toArray, List.set_cons_zero, List.set_cons_succ]
        refine wpAnyH_take (i := 2) (v := ?_) (by simp only [List.getElem?_toArray, List.getElem?_cons_succ, List.getElem?_cons_zero]; rfl) (by kernel_rfl) (by kernel_rfl) (by kernel_rfl) (by exact fun _ _ _ h => h) (Or.inl ⟨by rfl, ?_⟩) (by assumption) ?_; rotate_left; focus (intro w hSw; (try dsimp only at hSw); first | (go_simp; done) | (go_simp; with_reducible rfl))
        try simp only [Act.put, List.setIfInBounds_toArray, List.set_cons_zero, List.set_cons_succ]
        refine wpAnyH_take (i := 3) (v := ?_) (by simp only [List.getElem?_toArray, List.getElem?_cons_succ, List.getElem?_cons_zero]; rfl) (by kernel_rfl) (by kernel_rfl) (by kernel_rfl) (by exact fun _ _ _ h => h) (Or.inl ⟨by rfl, ?_⟩) (by assumption) ?_; rotate_left; focus (intro w hSw; (try dsimp only at hSw); first | (go_simp; done) | (go_simp; with_reducible rfl))
        try simp only [Act.put, List.setIfInBounds_toArray, List.set_cons_zero, List.set_cons_succ]
        refine wpAnyH_take (i := 4) (v := ?_) (by simp only [List.getElem?_toArray, List.getElem?_cons_succ, List.getElem?_cons_zero]; rfl) (by kernel_rfl) (by kernel_rfl) (by kernel_rfl) (by exact fun _ _ _ h => h) (Or.inl ⟨by rfl, ?_⟩) (by assumption) ?_; rotate_left; focus (intro w hSw; (try dsimp only at hSw); first | (go_simp; done) | (go_simp; with_reducible rfl))
        try simp only [Act.put, List.setIfInBounds_toArray, List.set_cons_zero, List.set_cons_succ]
        refine wpAnyH_take (i := 5) (v := ?_) (by simp only [List.getElem?_toArray, List.getElem?_cons_succ, List.getElem?_cons_zero]; rfl) (by kernel_rfl) (by kernel_rfl) (by kernel_rfl) (by exact fun _ _ _ h => h) (Or.inl ⟨by rfl, ?_⟩) (by assumption) ?_; rotate_left; focus (intro w hSw; (try dsimp only at hSw); first | (go_simp; done) | (go_simp; with_reducible rfl))
        try simp only [Act.put, List.setIfInBounds_toArray, List.set_cons_zero, List.set_cons_succ]
        refine wpAnyH_take (i := 6) (v := ?_) (by simp only [List.getElem?_toArray, List.getElem?_cons_succ, List.getElem?_cons_zero]; rfl) (by kernel_rfl) (by kernel_rfl) (by kernel_rfl) (by exact fun _ _ _ h => h) (Or.inl ⟨by rfl, ?_⟩) (by assumption) ?_; rotate_left; focus (intro w hSw; (try dsimp only at hSw); first | (go_simp; done) | (go_simp; with_reducible rfl))
        try simp only [Act.put, List.setIfInBounds_toArray, List.set_cons_zero, List.set_cons_succ]
        refine wpAnyH_take (i := 7) (v := undef) (by simp only [List.getElem?_toArray, List.getElem?_cons_succ, List.getElem?_cons_zero]; rfl) (by kernel_rfl) (by kernel_rfl) (by kernel_rfl) (by exact fun _ _ _ h => h) (Or.inr ⟨by rfl, rfl⟩) (by assumption) ?_
        try simp only [Act.put, List.setIfInBounds_toArray, List.set_cons_zero, List.set_cons_succ]
        refine wpAnyH_take (i := 8) (v := undef) (by simp only [List.getElem?_toArray, List.getElem?_cons_succ, List.getElem?_cons_zero]; rfl) (by kernel_rfl) (by kernel_rfl) (by kernel_rfl) (by exact fun _ _ _ h => h) (Or.inr ⟨by rfl, rfl⟩) (by assumption) ?_
        try simp only [Act.put, List.setIfInBounds_toArray, List.set_cons_zero, List.set_cons_succ]
        refine wpAnyH_take (i := 9) (v := undef) (by simp only [List.getElem?_toArray, List.getElem?_cons_succ, List.getElem?_cons_zero]; rfl) (by kernel_rfl) (by kernel_rfl) (by kernel_rfl) (by exact fun _ _ _ h => h) (Or.inr ⟨by rfl, rfl⟩) (by assumption) ?_
        try simp only [Act.put, List.setIfInBounds_toArray, List.set_cons_zero, List.set_cons_succ]
        refine wpAnyH_take (i := 10) (v := undef) (by simp only [List.getElem?_toArray, List.getElem?_cons_succ, List.getElem?_cons_zero]; rfl) (by kernel_rfl) (by kernel_rfl) (by kernel_rfl) (by exact fun _ _ _ h => h) (Or.inr ⟨by rfl, rfl⟩) (by assumption) ?_
        try simp only [Act.put, List.setIfInBounds_toArray, List.set_cons_zero, List.set_cons_succ]
        refine wpAnyH_take (i := 11) (v := undef) (by simp only [List.getElem?_toArray, List.getElem?_cons_succ, List.getElem?_cons_zero]; rfl) (by kernel_rfl) (by kernel_rfl) (by kernel_rfl) (by exact fun _ _ _ h => h) (Or.inr ⟨by rfl, rfl⟩) (by assumption) ?_
        try simp only [Act.put, List.setIfInBounds_toArray, List.set_cons_zero, List.set_cons_succ]
        refine wpAnyH_take (i := 12) (v := undef) (by simp only [List.getElem?_toArray, List.getElem?_cons_succ, List.getElem?_cons_zero]; rfl) (by kernel_rfl) (by kernel_rfl) (by kernel_rfl) (by exact fun _ _ _ h => h) (Or.inr ⟨by rfl, rfl⟩) (by assumption) ?_
        try simp only [Act.put, List.setIfInBounds_toArray, List.set_cons_zero, List.set_cons_succ]
        refine wpAnyH_take (i := 13) (v := undef) (by simp only [List.getElem?_toArray, List.getElem?_cons_succ, List.getElem?_cons_zero]; rfl) (by kernel_rfl) (by kernel_rfl) (by kernel_rfl) (by exact fun _ _ _ h => h) (Or.inr ⟨by rfl, rfl⟩) (by assumption) ?_
        try simp only [Act.put, List.setIfInBounds_toArray, List.set_cons_zero, List.set_cons_succ]
        refine wpAnyH_take (i := 14) (v := undef) (by simp only [List.getElem?_toArray, List.getElem?_cons_succ, List.getElem?_cons_zero]; rfl) (by kernel_rfl) (by kernel_rfl) (by kernel_rfl) (by exact fun _ _ _ h => h) (Or.inr ⟨by rfl, rfl⟩) (by assumption) ?_
        try simp only [Act.put, List.setIfInBounds_toArray, List.set_cons_zero, List.set_cons_succ]
        refine wpAnyH_take (i := 15) (v := undef) (by simp only [List.getElem?_toArray, List.getElem?_cons_succ, List.getElem?_cons_zero]; rfl) (by kernel_rfl) (by kernel_rfl) (by kernel_rfl) (by exact fun _ _ _ h => h) (Or.inr ⟨by rfl, rfl⟩) (by assumption) ?_
        try simp only [Act.put, List.setIfInBounds_toArray, List.set_cons_zero, List.set_cons_succ]
        refine wpAnyH_take (i := 16) (v := undef) (by simp only [List.getElem?_toArray, List.getElem?_cons_succ, List.getElem?_cons_zero]; rfl) (by kernel_rfl) (by kernel_rfl) (by kernel_rfl) (by exact fun _ _ _ h => h) (Or.inr ⟨by rfl, rfl⟩) (by assumption) ?_
        try simp only [Act.put, List.setIfInBounds_toArray, List.set_cons_zero, List.set_cons_succ]
        refine wpAnyH_take (i := 17) (v := ?_) (by simp only [List.getElem?_toArray, List.getElem?_cons_succ, List.getElem?_cons_zero]; rfl) (by kernel_rfl) (by kernel_rfl) (by kernel_rfl) (by exact fun _ _ _ h => h) (Or.inl ⟨by rfl, ?_⟩) (by assumption) ?_; rotate_left; focus (intro w hSw; (try dsimp only at hSw); first | (go_simp; done) | (go_simp; with_reducible rfl))
        try simp only [Act.put, List.setIfInBounds_toArray, List.set_cons_zero, List.set_cons_succ]
        refine wpAnyH_take (i := 18) (v := ?_) (by simp only [List.getElem?_toArray, List.getElem?_cons_succ, List.getElem?_cons_zero]; rfl) (by kernel_rfl) (by kernel_rfl) (by kernel_rfl) (by exact fun _ _ _ h => h) (Or.inl ⟨by rfl, ?_⟩) (by assumption) ?_; rotate_left; focus (intro w hSw; (try dsimp only at hSw); first | (go_simp; done) | (go_simp; with_reducible rfl))
        try simp only [Act.put, List.setIfInBounds_toArray, List.set_cons_zero, List.set_cons_succ]
        refine wpAnyH_done (by kernel_rfl) ?_ _
        have G9 := Lib.hid (G8.out.below hHeld.2.2.2.2.2.2.2.2.2.2.2.out)
        clear hHeld DD
        generalize w8.drew = w9 at G9 ⊢
        have GW := Lib.hid (G9.out.below (Joins.below_alloc1 w9 (.cells #[.int .i64 nx] 3)))
        have HN := Lib.hid (World.news_of_block (heap_alloc_new w9 (.cells #[.int .i64 nx] 3)))
        have hs3 := G9.out.size
        have HN' := Lib.hid (show ∀ j z, (intCells nx)[j]? = some z → (w9.alloc (.cells #[.int .i64 nx] 3)).cell? ((⟨w9.heap.size, 0, none⟩ : Addr).add j) = some z from fun j z hz => HN.out j z (by simpa [intCells] using hz))
        obtain ⟨i0, hin0, hz0, hz1, hz2⟩ := info_parts info_int
        have HI := Lib.hid hin0
        go_wp2_with (at_builtin; refine wpList_append_lies _ rfl _ _ _ rfl W0.heap.size 3 i0 _ 1 8 Tryz.underlying61 HI.out hz0 (by assumption) hz2 rfl (by omega) (.slice (some ⟨gq, 0, none⟩) out.length Qc) out.length (out.flatMap intCells) rfl GW.out.1 ⟨w9.heap.size, 0, none⟩ 1 1 (intCells nx) (by first | rfl | simp) rfl HN'.out (int_one _) (by omega) (by unfold maxLen; omega) (by omega) (by first | omega | (simp; done) | (simp; omega)) _ rfl ?_; intro g4 cap4 w4 hown4 hgrow4 hor4 hlt4; have GX := Lib.hid (GW.out.next (x := nx) hown4 hgrow4); clear hown4 hgrow4 hor4 hlt4)
        go_roundw
        case rel => exact ⟨k + 1, out ++ [nx], by omega, by have := HOL.out; simp; omega, by go_num, P2, MB, GX⟩
        case measure => simp [intOf]; omega
      · have c2' : (nx != atm) = true := by simpa using c2
        obtain ⟨wt, hwt⟩ : ∃ b, y.wait = b := ⟨_, rfl⟩
        rw [hwt] at GP1 HWT
        cases wt with
        | false =>
          have E := Lib.hid (show sailO f d s fr r st = none by rw [E0.out]; refine sailTo_none (k := k + 1) ?_ r.length (by omega); rw [HNX.out, goOn_stay hnx c1 c2 HWT.out])
          clear hatm hnx hwt
          have Fd0 := Lib.hid (show w8.cell? ⟨w.heap.size, 0, none⟩ = some (.slice (some ⟨gp, op, none⟩) d.points.length cd0) from Kd_8.out.cell 0)
          have Fd1 := Lib.hid (show w8.cell? ⟨w.heap.size, 1, none⟩ = some (.slice (some ⟨g', o', none⟩) d.segs.length cd1) from Kd_8.out.cell 1)
          have Fs0 := Lib.hid (show w8.cell? ⟨w.heap.size + 1, 0, none⟩ = some (.string s.name) from Ks_8.out.cell 0)
          have Fs1 := Lib.hid (show w8.cell? ⟨w.heap.size + 1, 1, none⟩ = some (.int .i64 s.length) from Ks_8.out.cell 1)
          have Fs2 := Lib.hid (show w8.cell? ⟨w.heap.size + 1, 2, none⟩ = some (.int .i64 s.draught) from Ks_8.out.cell 2)
          have Fs3 := Lib.hid (show w8.cell? ⟨w.heap.size + 1, 3, none⟩ = some (.int .i64 s.line) from Ks_8.out.cell 3)
          have Fs4 := Lib.hid (show w8.cell? ⟨w.heap.size + 1, 4, none⟩ = some (.int .i64 s.tugs) from Ks_8.out.cell 4)
          have Fs5 := Lib.hid (show w8.cell? ⟨w.heap.size + 1, 5, none⟩ = some (.bool s.slow) from Ks_8.out.cell 5)
          have DD := Lib.hid ((Below.refl w8.heap.size w8).drew)
          have vFd0 := Fd0.out
          have vFd1 := Fd1.out
          have vFs0 := Fs0.out
          have vFs1 := Fs1.out
          have vFs2 := Fs2.out
          have vFs3 := Fs3.out
          have vFs4 := Fs4.out
          have vFs5 := Fs5.out
          have vGT := GT.out
          have vGP0 := GP0.out
          have vGP1 := GP1.out
          go_upto_region 9 with fail
          refine wp_region_held_drew (S := (fun w' => w'.cell? ⟨w.heap.size, 0, none⟩ = some (.slice (some ⟨gp, op, none⟩) d.points.length cd0) ∧ w'.cell? ⟨w.heap.size, 1, none⟩ = some (.slice (some ⟨g', o', none⟩) d.segs.length cd1) ∧ w'.cell? ⟨w.heap.size + 1, 0, none⟩ = some (.string s.name) ∧ w'.cell? ⟨w.heap.size + 1, 1, none⟩ = some (.int .i64 s.length) ∧ w'.cell? ⟨w.heap.size + 1, 2, none⟩ = some (.int .i64 s.draught) ∧ w'.cell? ⟨w.heap.size + 1, 3, none⟩ = some (.int .i64 s.line) ∧ w'.cell? ⟨w.heap.size + 1, 4, none⟩ = some (.int .i64 s.tugs) ∧ w'.cell? ⟨w.heap.size + 1, 5, none⟩ = some (.bool s.slow) ∧ w'.cell? ⟨gt, ot + (k + 1), none⟩ = some (.int .i64 (kp : Int)) ∧ w'.cell? ⟨gp, op + kp * 2, none⟩ = some (.string y.name) ∧ w'.cell? ⟨gp, op + kp * 2 + 1, none⟩ = some (.bool false) ∧ Hid (Below w8.heap.size w8 w'))) (by kernel_rfl) ?_ (fun hHeld => ?_)
          · (try dsimp only); go_keep
          refine wpAnyH_take (i := 0) (v := ?_) (by simp only [List.getElem?_toArray, List.getElem?_cons_zero]; rfl) (by kernel_rfl) (by kernel_rfl) (by kernel_rfl) (by exact fun _ _ _ h => h) (Or.inl ⟨by rfl, ?_⟩) (by assumption) ?_; rotate_left; focus (intro w hSw; (try dsimp only at hSw); first | (go_simp; done) | (go_simp; with_reducible rfl))
          try simp only [Act.put, List.setIfInBounds_toArray, List.set_cons_zero, List.set_cons_succ]
          refine wpAnyH_take (i := 1) (v := ?_) (by simp only [List.getElem?_toArray, List.getElem?_cons_succ, List.getElem?_cons_zero]; rfl) (by kernel_rfl) (by kernel_rfl) (by kernel_rfl) (by exact fun _ _ _ h => h) (Or.inl ⟨by rfl, ?_⟩) (by assumption) ?_; rotate_left; focus (intro w hSw; (try dsimp only at hSw); first | (go_simp; done) | (go_simp; with_reducible rfl))
          try simp only [Act.put, List.setIfInBounds_toArray, List.set_cons_zero, List.set_cons_succ]
          refine wpAnyH_take (i := 2) (v := ?_) (by simp only [List.getElem?_toArray, List.getElem?_cons_succ, List.getElem?_cons_zero]; rfl) (by kernel_rfl) (by kernel_rfl) (by kernel_rfl) (by exact fun _ _ _ h => h) (Or.inl ⟨by rfl, ?_⟩) (by assumption) ?_; rotate_left; focus (intro w hSw; (try dsimp only at hSw); first | (go_simp; done) | (go_simp; with_reducible rfl))
          try simp only [Act.put, List.setIfInBounds_toArray, List.set_cons_zero, List.set_cons_succ]
          refine wpAnyH_take (i := 3) (v := ?_) (by simp only [List.getElem?_toArray, List.getElem?_cons_succ, List.getElem?_cons_zero]; rfl) (by kernel_rfl) (by kernel_rfl) (by kernel_rfl) (by exact fun _ _ _ h => h) (Or.inl ⟨by rfl, ?_⟩) (by assumption) ?_; rotate_left; focus (intro w hSw; (try dsimp only at hSw); first | (go_simp; done) | (go_simp; with_reducible rfl))
          try simp only [Act.put, List.setIfInBounds_toArray, List.set_cons_zero, List.set_cons_succ]
          refine wpAnyH_take (i := 4) (v := ?_) (by simp only [List.getElem?_toArray, List.getElem?_cons_succ, List.getElem?_cons_zero]; rfl) (by kernel_rfl) (by kernel_rfl) (by kernel_rfl) (by exact fun _ _ _ h => h) (Or.inl ⟨by rfl, ?_⟩) (by assumption) ?_; rotate_left; focus (intro w hSw; (try dsimp only at hSw); first | (go_simp; done) | (go_simp; with_reducible rfl))
          try simp only [Act.put, List.setIfInBounds_toArray, List.set_cons_zero, List.set_cons_succ]
          refine wpAnyH_take (i := 5) (v := ?_) (by simp only [List.getElem?_toArray, List.getElem?_cons_succ, List.getElem?_cons_zero]; rfl) (by kernel_rfl) (by kernel_rfl) (by kernel_rfl) (by exact fun _ _ _ h => h) (Or.inl ⟨by rfl, ?_⟩) (by assumption) ?_; rotate_left; focus (intro w hSw; (try dsimp only at hSw); first | (go_simp; done) | (go_simp; with_reducible rfl))
          try simp only [Act.put, List.setIfInBounds_toArray, List.set_cons_zero, List.set_cons_succ]
          refine wpAnyH_take (i := 6) (v := ?_) (by simp only [List.getElem?_toArray, List.getElem?_cons_succ, List.getElem?_cons_zero]; rfl) (by kernel_rfl) (by kernel_rfl) (by kernel_rfl) (by exact fun _ _ _ h => h) (Or.inl ⟨by rfl, ?_⟩) (by assumption) ?_; rotate_left; focus (intro w hSw; (try dsimp only at hSw); first | (go_simp; done) | (go_simp; with_reducible rfl))
          try simp only [Act.put, List.setIfInBounds_toArray, List.set_cons_zero, List.set_cons_succ]
          refine wpAnyH_take (i := 7) (v := ?_) (by simp only [List.getElem?_toArray, List.getElem?_cons_succ, List.getElem?_cons_zero]; rfl) (by kernel_rfl) (by kernel_rfl) (by kernel_rfl) (by exact fun _ _ _ h => h) (Or.inl ⟨by rfl, ?_⟩) (by assumption) ?_; rotate_left; focus (intro w hSw; (try dsimp only at hSw); first | (go_simp; done) | (go_simp; with_reducible rfl))
          try simp only [Act.put, List.setIfInBounds_toArray, List.set_cons_zero, List.set_cons_succ]
          refine wpAnyH_take (i := 8) (v := ?_) (by simp only [List.getElem?_toArray, List.getElem?_cons_succ, List.getElem?_cons_zero]; rfl) (by kernel_rfl) (by kernel_rfl) (by kernel_rfl) (by exact fun _ _ _ h => h) (Or.inl ⟨by rfl, ?_⟩) (by assumption) ?_; rotate_left; focus (intro w hSw; (try dsimp only at hSw); first | (go_simp; done) | (go_simp; with_reducible rfl))
          try simp only [Act.put, List.setIfInBounds_toArray, List.set_cons_zero, List.set_cons_succ]
          refine wpAnyH_take (i := 9) (v := ?_) (by simp only [List.getElem?_toArray, List.getElem?_cons_succ, List.getElem?_cons_zero]; rfl) (by kernel_rfl) (by kernel_rfl) (by kernel_rfl) (by exact fun _ _ _ h => h) (Or.inl ⟨by rfl, ?_⟩) (by assumption) ?_; rotate_left; focus (intro w hSw; (try dsimp only at hSw); first | (go_simp; done) | (go_simp; with_reducible rfl))
          try simp only [Act.put, List.setIfInBounds_toArray, List.set_cons_zero, List.set_cons_succ]
          refine wpAnyH_take (i := 10) (v := ?_) (by simp only [List.getElem?_toArray, List.getElem?_cons_succ, List.getElem?_cons_zero]; rfl) (by kernel_rfl) (by kernel_rfl) (by kernel_rfl) (by exact fun _ _ _ h => h) (Or.inl ⟨by rfl, ?_⟩) (by assumption) ?_; rotate_left; focus (intro w hSw; (try dsimp only at hSw); first | (go_simp; done) | (go_simp; with_reducible rfl))
          try simp only [Act.put, List.setIfInBounds_toArray, List.set_cons_zero, List.set_cons_succ]
          refine wpAnyH_take (i := 11) (v := ?_) (by simp only [List.getElem?_toArray, List.getElem?_cons_succ, List.getElem?_cons_zero]; rfl) (by kernel_rfl) (by kernel_rfl) (by kernel_rfl) (by exact fun _ _ _ h => h) (Or.inl ⟨by rfl, ?_⟩) (by assumption) ?_; rotate_left; focus (intro w hSw; (try dsimp only at hSw); first | (go_simp; done) | (go_simp; with_reducible rfl))
          try simp only [Act.put, List.setIfInBounds_toArray, List.set_cons_zero, List.set_cons_succ]
          refine wpAnyH_take (i := 12) (v := ?_) (by simp only [List.getElem?_toArray, List.getElem?_cons_succ, List.getElem?_cons_zero]; rfl) (by kernel_rfl) (by kernel_rfl) (by kernel_rfl) (by exact fun _ _ _ h => h) (Or.inl ⟨by rfl, ?_⟩) (by assumption) ?_; rotate_left; focus (intro w hSw; (try dsimp only at hSw); first | (go_simp; done) | (go_simp; with_reducible rfl))
          try simp only [Act.put, List.setIfInBounds_toArray, List.set_cons_zero, List.set_cons_succ]
          refine wpAnyH_take (i := 13) (v := ?_) (by simp only [List.getElem?_toArray, List.getElem?_cons_succ, List.getElem?_cons_zero]; rfl) (by kernel_rfl) (by kernel_rfl) (by kernel_rfl) (by exact fun _ _ _ h => h) (Or.inl ⟨by rfl, ?_⟩) (by assumption) ?_; rotate_left; focus (intro w hSw; (try dsimp only at hSw); first | (go_simp; done) | (go_simp; with_reducible rfl))
          try simp only [Act.put, List.setIfInBounds_toArray, List.set_cons_zero, List.set_cons_succ]
          refine wpAnyH_take (i := 14) (v := ?_) (by simp only [List.getElem?_toArray, List.getElem?_cons_succ, List.getElem?_cons_zero]; rfl) (by kernel_rfl) (by kernel_rfl) (by kernel_rfl) (by exact fun _ _ _ h => h) (Or.inl ⟨by rfl, ?_⟩) (by assumption) ?_; rotate_left; focus (intro w hSw; (try dsimp only at hSw); first | (go_simp; done) | (go_simp; with_reducible rfl))
          try simp only [Act.put, List.setIfInBounds_toArray, List.set_cons_zero, List.set_cons_succ]
          refine wpAnyH_take (i := 15) (v := ?_) (by simp only [List.getElem?_toArray, List.getElem?_cons_succ, List.getElem?_cons_zero]; rfl) (by kernel_rfl) (by kernel_rfl) (by kernel_rfl) (by exact fun _ _ _ h => h) (Or.inl ⟨by rfl, ?_⟩) (by assumption) ?_; rotate_left; focus (intro w hSw; (try dsimp only at hSw); first | (go_simp; done) | (go_simp; with_reducible rfl))
          try simp only [Act.put, List.setIfInBounds_toArray, List.set_cons_zero, List.set_cons_succ]
          refine wpAnyH_take (i := 16) (v := ?_) (by simp only [List.getElem?_toArray, List.getElem?_cons_succ, List.getElem?_cons_zero]; rfl) (by kernel_rfl) (by kernel_rfl) (by kernel_rfl) (by exact fun _ _ _ h => h) (Or.inl ⟨by rfl, ?_⟩) (by assumption) ?_; rotate_left; focus (intro w hSw; (try dsimp only at hSw); first | (go_simp; done) | (go_simp; with_reducible rfl))
          try simp only [Act.put, List.setIfInBounds_toArray, List.set_cons_zero, List.set_cons_succ]
          refine wpAnyH_take (i := 17) (v := ?_) (by simp only [List.getElem?_toArray, List.getElem?_cons_succ, List.getElem?_cons_zero]; rfl) (by kernel_rfl) (by kernel_rfl) (by kernel_rfl) (by exact fun _ _ _ h => h) (Or.inl ⟨by rfl, ?_⟩) (by assumption) ?_; rotate_left; focus (intro w hSw; (try dsimp only at hSw); first | (go_simp; done) | (go_simp; with_reducible rfl))
          try simp only [Act.put, List.setIfInBounds_toArray, List.set_cons_zero, List.set_cons_succ]
          refine wpAnyH_take (i := 18) (v := ?_) (by simp only [List.getElem?_toArray, List.getElem?_cons_succ, List.getElem?_cons_zero]; rfl) (by kernel_rfl) (by kernel_rfl) (by kernel_rfl) (by exact fun _ _ _ h => h) (Or.inl ⟨by rfl, ?_⟩) (by assumption) ?_; rotate_left; focus (intro w hSw; (try dsimp only at hSw); first | (go_simp; done) | (go_simp; with_reducible rfl))
          try simp only [Act.put, List.setIfInBounds_toArray, List.set_cons_zero, List.set_cons_succ]
          refine wpAnyH_done (by kernel_rfl) ?_ _
          go_wp2
          refine bodyPost_ret (v := .tuple #[.slice none 0 0, .bool false]) (by simp [results, Tryz.results50, go_sem, *]) rfl (SailPost.no E.out (B8.out.trans (hHeld.2.2.2.2.2.2.2.2.2.2.2.out.mono B8.out.size)))
        | true =>
          have P2 := Lib.hid (show sailTo d s t r (winsL f d s r) st (k + 2) = some (out ++ [nx]) by rw [HNX.out, goOn_yes hnx c1 (.inr HWT.out)])
          have nx1 := NXM.out (by rw [hnx]; omega)
          rw [hnx] at nx1
          have nx0 : 0 ≤ nx := by omega
          have MB := Lib.hid (show ∀ z ∈ out ++ [nx], 0 ≤ z ∧ z ≤ 2880 from fun z hz => by
              rcases List.mem_append.1 hz with h9 | h9
              · exact hM.out z h9
              · simp at h9; subst h9; exact ⟨nx0, nx1⟩)
          clear hatm hnx
          clear hwt
          have Fd0 := Lib.hid (show w8.cell? ⟨w.heap.size, 0, none⟩ = some (.slice (some ⟨gp, op, none⟩) d.points.length cd0) from Kd_8.out.cell 0)
          have Fd1 := Lib.hid (show w8.cell? ⟨w.heap.size, 1, none⟩ = some (.slice (some ⟨g', o', none⟩) d.segs.length cd1) from Kd_8.out.cell 1)
          have Fs0 := Lib.hid (show w8.cell? ⟨w.heap.size + 1, 0, none⟩ = some (.string s.name) from Ks_8.out.cell 0)
          have Fs1 := Lib.hid (show w8.cell? ⟨w.heap.size + 1, 1, none⟩ = some (.int .i64 s.length) from Ks_8.out.cell 1)
          have Fs2 := Lib.hid (show w8.cell? ⟨w.heap.size + 1, 2, none⟩ = some (.int .i64 s.draught) from Ks_8.out.cell 2)
          have Fs3 := Lib.hid (show w8.cell? ⟨w.heap.size + 1, 3, none⟩ = some (.int .i64 s.line) from Ks_8.out.cell 3)
          have Fs4 := Lib.hid (show w8.cell? ⟨w.heap.size + 1, 4, none⟩ = some (.int .i64 s.tugs) from Ks_8.out.cell 4)
          have Fs5 := Lib.hid (show w8.cell? ⟨w.heap.size + 1, 5, none⟩ = some (.bool s.slow) from Ks_8.out.cell 5)
          have DD := Lib.hid ((Below.refl w8.heap.size w8).drew)
          have vFd0 := Fd0.out
          have vFd1 := Fd1.out
          have vFs0 := Fs0.out
          have vFs1 := Fs1.out
          have vFs2 := Fs2.out
          have vFs3 := Fs3.out
          have vFs4 := Fs4.out
          have vFs5 := Fs5.out
          have vGT := GT.out
          have vGP0 := GP0.out
          have vGP1 := GP1.out
          go_upto_region 9 with fail
          refine wp_region_held_drew (S := (fun w' => w'.cell? ⟨w.heap.size, 0, none⟩ = some (.slice (some ⟨gp, op, none⟩) d.points.length cd0) ∧ w'.cell? ⟨w.heap.size, 1, none⟩ = some (.slice (some ⟨g', o', none⟩) d.segs.length cd1) ∧ w'.cell? ⟨w.heap.size + 1, 0, none⟩ = some (.string s.name) ∧ w'.cell? ⟨w.heap.size + 1, 1, none⟩ = some (.int .i64 s.length) ∧ w'.cell? ⟨w.heap.size + 1, 2, none⟩ = some (.int .i64 s.draught) ∧ w'.cell? ⟨w.heap.size + 1, 3, none⟩ = some (.int .i64 s.line) ∧ w'.cell? ⟨w.heap.size + 1, 4, none⟩ = some (.int .i64 s.tugs) ∧ w'.cell? ⟨w.heap.size + 1, 5, none⟩ = some (.bool s.slow) ∧ w'.cell? ⟨gt, ot + (k + 1), none⟩ = some (.int .i64 (kp : Int)) ∧ w'.cell? ⟨gp, op + kp * 2, none⟩ = some (.string y.name) ∧ w'.cell? ⟨gp, op + kp * 2 + 1, none⟩ = some (.bool true) ∧ Hid (Below w8.heap.size w8 w'))) (by kernel_rfl) ?_ (fun hHeld => ?_)
          · (try dsimp only); go_keep
          refine wpAnyH_take (i := 0) (v := ?_) (by simp only [List.getElem?_toArray, List.getElem?_cons_zero]; rfl) (by kernel_rfl) (by kernel_rfl) (by kernel_rfl) (by exact fun _ _ _ h => h) (Or.inl ⟨by rfl, ?_⟩) (by assumption) ?_; rotate_left; focus (intro w hSw; (try dsimp only at hSw); first | (go_simp; done) | (go_simp; with_reducible rfl))
          try simp only [Act.put, List.setIfInBounds_toArray, List.set_cons_zero, List.set_cons_succ]
          refine wpAnyH_take (i := 1) (v := ?_) (by simp only [List.getElem?_toArray, List.getElem?_cons_succ, List.getElem?_cons_zero]; rfl) (by kernel_rfl) (by kernel_rfl) (by kernel_rfl) (by exact fun _ _ _ h => h) (Or.inl ⟨by rfl, ?_⟩) (by assumption) ?_; rotate_left; focus (intro w hSw; (try dsimp only at hSw); first | (go_simp; done) | (go_simp; with_reducible rfl))
          try simp only [Act.put, List.setIfInBounds_toArray, List.set_cons_zero, List.set_cons_succ]
          refine wpAnyH_take (i := 2) (v := ?_) (by simp only [List.getElem?_toArray, List.getElem?_cons_succ, List.getElem?_cons_zero]; rfl) (by kernel_rfl) (by kernel_rfl) (by kernel_rfl) (by exact fun _ _ _ h => h) (Or.inl ⟨by rfl, ?_⟩) (by assumption) ?_; rotate_left; focus (intro w hSw; (try dsimp only at hSw); first | (go_simp; done) | (go_simp; with_reducible rfl))
          try simp only [Act.put, List.setIfInBounds_toArray, List.set_cons_zero, List.set_cons_succ]
          refine wpAnyH_take (i := 3) (v := ?_) (by simp only [List.getElem?_toArray, List.getElem?_cons_succ, List.getElem?_cons_zero]; rfl) (by kernel_rfl) (by kernel_rfl) (by kernel_rfl) (by exact fun _ _ _ h => h) (Or.inl ⟨by rfl, ?_⟩) (by assumption) ?_; rotate_left; focus (intro w hSw; (try dsimp only at hSw); first | (go_simp; done) | (go_simp; with_reducible rfl))
          try simp only [Act.put, List.setIfInBounds_toArray, List.set_cons_zero, List.set_cons_succ]
          refine wpAnyH_take (i := 4) (v := ?_) (by simp only [List.getElem?_toArray, List.getElem?_cons_succ, List.getElem?_cons_zero]; rfl) (by kernel_rfl) (by kernel_rfl) (by kernel_rfl) (by exact fun _ _ _ h => h) (Or.inl ⟨by rfl, ?_⟩) (by assumption) ?_; rotate_left; focus (intro w hSw; (try dsimp only at hSw); first | (go_simp; done) | (go_simp; with_reducible rfl))
          try simp only [Act.put, List.setIfInBounds_toArray, List.set_cons_zero, List.set_cons_succ]
          refine wpAnyH_take (i := 5) (v := ?_) (by simp only [List.getElem?_toArray, List.getElem?_cons_succ, List.getElem?_cons_zero]; rfl) (by kernel_rfl) (by kernel_rfl) (by kernel_rfl) (by exact fun _ _ _ h => h) (Or.inl ⟨by rfl, ?_⟩) (by assumption) ?_; rotate_left; focus (intro w hSw; (try dsimp only at hSw); first | (go_simp; done) | (go_simp; with_reducible rfl))
          try simp only [Act.put, List.setIfInBounds_toArray, List.set_cons_zero, List.set_cons_succ]
          refine wpAnyH_take (i := 6) (v := ?_) (by simp only [List.getElem?_toArray, List.getElem?_cons_succ, List.getElem?_cons_zero]; rfl) (by kernel_rfl) (by kernel_rfl) (by kernel_rfl) (by exact fun _ _ _ h => h) (Or.inl ⟨by rfl, ?_⟩) (by assumption) ?_; rotate_left; focus (intro w hSw; (try dsimp only at hSw); first | (go_simp; done) | (go_simp; with_reducible rfl))
          try simp only [Act.put, List.setIfInBounds_toArray, List.set_cons_zero, List.set_cons_succ]
          refine wpAnyH_take (i := 7) (v := ?_) (by simp only [List.getElem?_toArray, List.getElem?_cons_succ, List.getElem?_cons_zero]; rfl) (by kernel_rfl) (by kernel_rfl) (by kernel_rfl) (by exact fun _ _ _ h => h) (Or.inl ⟨by rfl, ?_⟩) (by assumption) ?_; rotate_left; focus (intro w hSw; (try dsimp only at hSw); first | (go_simp; done) | (go_simp; with_reducible rfl))
          try simp only [Act.put, List.setIfInBounds_toArray, List.set_cons_zero, List.set_cons_succ]
          refine wpAnyH_take (i := 8) (v := ?_) (by simp only [List.getElem?_toArray, List.getElem?_cons_succ, List.getElem?_cons_zero]; rfl) (by kernel_rfl) (by kernel_rfl) (by kernel_rfl) (by exact fun _ _ _ h => h) (Or.inl ⟨by rfl, ?_⟩) (by assumption) ?_; rotate_left; focus (intro w hSw; (try dsimp only at hSw); first | (go_simp; done) | (go_simp; with_reducible rfl))
          try simp only [Act.put, List.setIfInBounds_toArray, List.set_cons_zero, List.set_cons_succ]
          refine wpAnyH_take (i := 9) (v := ?_) (by simp only [List.getElem?_toArray, List.getElem?_cons_succ, List.getElem?_cons_zero]; rfl) (by kernel_rfl) (by kernel_rfl) (by kernel_rfl) (by exact fun _ _ _ h => h) (Or.inl ⟨by rfl, ?_⟩) (by assumption) ?_; rotate_left; focus (intro w hSw; (try dsimp only at hSw); first | (go_simp; done) | (go_simp; with_reducible rfl))
          try simp only [Act.put, List.setIfInBounds_toArray, List.set_cons_zero, List.set_cons_succ]
          refine wpAnyH_take (i := 10) (v := ?_) (by simp only [List.getElem?_toArray, List.getElem?_cons_succ, List.getElem?_cons_zero]; rfl) (by kernel_rfl) (by kernel_rfl) (by kernel_rfl) (by exact fun _ _ _ h => h) (Or.inl ⟨by rfl, ?_⟩) (by assumption) ?_; rotate_left; focus (intro w hSw; (try dsimp only at hSw); first | (go_simp; done) | (go_simp; with_reducible rfl))
          try simp only [Act.put, List.setIfInBounds_toArray, List.set_cons_zero, List.set_cons_succ]
          refine wpAnyH_take (i := 11) (v := ?_) (by simp only [List.getElem?_toArray, List.getElem?_cons_succ, List.getElem?_cons_zero]; rfl) (by kernel_rfl) (by kernel_rfl) (by kernel_rfl) (by exact fun _ _ _ h => h) (Or.inl ⟨by rfl, ?_⟩) (by assumption) ?_; rotate_left; focus (intro w hSw; (try dsimp only at hSw); first | (go_simp; done) | (go_simp; with_reducible rfl))
          try simp only [Act.put, List.setIfInBounds_toArray, List.set_cons_zero, List.set_cons_succ]
          refine wpAnyH_take (i := 12) (v := ?_) (by simp only [List.getElem?_toArray, List.getElem?_cons_succ, List.getElem?_cons_zero]; rfl) (by kernel_rfl) (by kernel_rfl) (by kernel_rfl) (by exact fun _ _ _ h => h) (Or.inl ⟨by rfl, ?_⟩) (by assumption) ?_; rotate_left; focus (intro w hSw; (try dsimp only at hSw); first | (go_simp; done) | (go_simp; with_reducible rfl))
          try simp only [Act.put, List.setIfInBounds_toArray, List.set_cons_zero, List.set_cons_succ]
          refine wpAnyH_take (i := 13) (v := ?_) (by simp only [List.getElem?_toArray, List.getElem?_cons_succ, List.getElem?_cons_zero]; rfl) (by kernel_rfl) (by kernel_rfl) (by kernel_rfl) (by exact fun _ _ _ h => h) (Or.inl ⟨by rfl, ?_⟩) (by assumption) ?_; rotate_left; focus (intro w hSw; (try dsimp only at hSw); first | (go_simp; done) | (go_simp; with_reducible rfl))
          try simp only [Act.put, List.setIfInBounds_toArray, List.set_cons_zero, List.set_cons_succ]
          refine wpAnyH_take (i := 14) (v := ?_) (by simp only [List.getElem?_toArray, List.getElem?_cons_succ, List.getElem?_cons_zero]; rfl) (by kernel_rfl) (by kernel_rfl) (by kernel_rfl) (by exact fun _ _ _ h => h) (Or.inl ⟨by rfl, ?_⟩) (by assumption) ?_; rotate_left; focus (intro w hSw; (try dsimp only at hSw); first | (go_simp; done) | (go_simp; with_reducible rfl))
          try simp only [Act.put, List.setIfInBounds_toArray, List.set_cons_zero, List.set_cons_succ]
          refine wpAnyH_take (i := 15) (v := ?_) (by simp only [List.getElem?_toArray, List.getElem?_cons_succ, List.getElem?_cons_zero]; rfl) (by kernel_rfl) (by kernel_rfl) (by kernel_rfl) (by exact fun _ _ _ h => h) (Or.inl ⟨by rfl, ?_⟩) (by assumption) ?_; rotate_left; focus (intro w hSw; (try dsimp only at hSw); first | (go_simp; done) | (go_simp; with_reducible rfl))
          try simp only [Act.put, List.setIfInBounds_toArray, List.set_cons_zero, List.set_cons_succ]
          refine wpAnyH_take (i := 16) (v := ?_) (by simp only [List.getElem?_toArray, List.getElem?_cons_succ, List.getElem?_cons_zero]; rfl) (by kernel_rfl) (by kernel_rfl) (by kernel_rfl) (by exact fun _ _ _ h => h) (Or.inl ⟨by rfl, ?_⟩) (by assumption) ?_; rotate_left; focus (intro w hSw; (try dsimp only at hSw); first | (go_simp; done) | (go_simp; with_reducible rfl))
          try simp only [Act.put, List.setIfInBounds_toArray, List.set_cons_zero, List.set_cons_succ]
          refine wpAnyH_take (i := 17) (v := ?_) (by simp only [List.getElem?_toArray, List.getElem?_cons_succ, List.getElem?_cons_zero]; rfl) (by kernel_rfl) (by kernel_rfl) (by kernel_rfl) (by exact fun _ _ _ h => h) (Or.inl ⟨by rfl, ?_⟩) (by assumption) ?_; rotate_left; focus (intro w hSw; (try dsimp only at hSw); first | (go_simp; done) | (go_simp; with_reducible rfl))
          try simp only [Act.put, List.setIfInBounds_toArray, List.set_cons_zero, List.set_cons_succ]
          refine wpAnyH_take (i := 18) (v := ?_) (by simp only [List.getElem?_toArray, List.getElem?_cons_succ, List.getElem?_cons_zero]; rfl) (by kernel_rfl) (by kernel_rfl) (by kernel_rfl) (by exact fun _ _ _ h => h) (Or.inl ⟨by rfl, ?_⟩) (by assumption) ?_; rotate_left; focus (intro w hSw; (try dsimp only at hSw); first | (go_simp; done) | (go_simp; with_reducible rfl))
          try simp only [Act.put, List.setIfInBounds_toArray, List.set_cons_zero, List.set_cons_succ]
          refine wpAnyH_done (by kernel_rfl) ?_ _
          have G9 := Lib.hid (G8.out.below hHeld.2.2.2.2.2.2.2.2.2.2.2.out)
          clear hHeld DD
          generalize w8.drew = w9 at G9 ⊢
          have GW := Lib.hid (G9.out.below (Joins.below_alloc1 w9 (.cells #[.int .i64 nx] 3)))
          have HN := Lib.hid (World.news_of_block (heap_alloc_new w9 (.cells #[.int .i64 nx] 3)))
          have hs3 := G9.out.size
          have HN' := Lib.hid (show ∀ j z, (intCells nx)[j]? = some z → (w9.alloc (.cells #[.int .i64 nx] 3)).cell? ((⟨w9.heap.size, 0, none⟩ : Addr).add j) = some z from fun j z hz => HN.out j z (by simpa [intCells] using hz))
          obtain ⟨i0, hin0, hz0, hz1, hz2⟩ := info_parts info_int
          have HI := Lib.hid hin0
          go_wp2_with (at_builtin; refine wpList_append_lies _ rfl _ _ _ rfl W0.heap.size 3 i0 _ 1 8 Tryz.underlying61 HI.out hz0 (by assumption) hz2 rfl (by omega) (.slice (some ⟨gq, 0, none⟩) out.length Qc) out.length (out.flatMap intCells) rfl GW.out.1 ⟨w9.heap.size, 0, none⟩ 1 1 (intCells nx) (by first | rfl | simp) rfl HN'.out (int_one _) (by omega) (by unfold maxLen; omega) (by omega) (by first | omega | (simp; done) | (simp; omega)) _ rfl ?_; intro g4 cap4 w4 hown4 hgrow4 hor4 hlt4; have GX := Lib.hid (GW.out.next (x := nx) hown4 hgrow4); clear hown4 hgrow4 hor4 hlt4)
          go_roundw
          case rel => exact ⟨k + 1, out ++ [nx], by omega, by have := HOL.out; simp; omega, by go_num, P2, MB, GX⟩
          case measure => simp [intOf]; omega
end Go.Proofs.YtooeikimoheecaaGreat
