
/- Rules of traffic, the model's side: FirstConflict, IsClear, Clashes: contracts. -/
import Derived.Test.YtpglaffmmddcdaaConfSpec
import Derived.Test.YtpglaffmmddcdaaRuleMath2
import Derived.Deep.RegionHeld3
import Derived.Deep.DeepCutAuto
namespace Go.Proofs.Ytpglaffmmddcdaa
open Go.RowKit
set_option maxRecDepth 100000


set_option maxHeartbeats 8000000 in
theorem specFirstConflict (yd0 yd1 : Value) (d : ChartD) (r : RegimeD) (yl : Value) (l : List PassageD) (w : World) (rd : RdChart w yd0 yd1 d) (rl : SlPassage w yl l) (fd : ∀ x ∈ d.points, PointD.wf x) (fl : ∀ x ∈ l, PassageD.wf x) :
    Calls Try.prog 32 #[.agg #[yd0, yd1], r.val, yl] w (fun e w' => e = .returned (.tuple #[.int .i64 (fcI (firstC d r l)), .int .i64 (fcK (firstC d r l)), .int .i64 (fcN (firstC d r l))]) ∧ Below w.heap.size w w') := by
  have Rd := Lib.hid rd
  obtain ⟨rd0, rd1⟩ := rd
  obtain ⟨Ad0, cd0, rfl⟩ := SlOf.form rd0
  obtain ⟨Ad1, cd1, rfl⟩ := SlOf.form rd1
  have Nd := Lib.hid fd
  clear fd
  clear rd0 rd1
  have Rl := Lib.hid rl
  obtain ⟨Al, cl, rfl⟩ := SlOf.form rl
  clear rl
  have Nl := Lib.hid fl
  clear fl
  obtain ⟨W0, hW0⟩ : ∃ W0, W0 = ((w.alloc (.cells #[.slice Ad0 d.points.length cd0, .slice Ad1 d.segs.length cd1] 26)).alloc (.cells #[.int .i64 r.gap, .bool r.noMeet] 28)) := ⟨_, rfl⟩
  have B := Lib.hid ((Joins.below_alloc1 w (.cells #[.slice Ad0 d.points.length cd0, .slice Ad1 d.segs.length cd1] 26)).trans ((Joins.below_alloc1 (w.alloc (.cells #[.slice Ad0 d.points.length cd0, .slice Ad1 d.segs.length cd1] 26)) (.cells #[.int .i64 r.gap, .bool r.noMeet] 28)).mono (by simp; try omega)))
  have Kd := Lib.hid ((Blk.new w #[.slice Ad0 d.points.length cd0, .slice Ad1 d.segs.length cd1] 26).below (Joins.below_alloc1 _ (.cells #[.int .i64 r.gap, .bool r.noMeet] 28)))
  have Kr := Lib.hid (Blk.new (w.alloc (.cells #[.slice Ad0 d.points.length cd0, .slice Ad1 d.segs.length cd1] 26)) #[.int .i64 r.gap, .bool r.noMeet] 28)
  rw [World.size_alloc] at Kr
  have HW0 := Lib.hid hW0
  rw [← hW0] at B Kd Kr
  clear hW0
  have hll := Rl.out.1
  go_enter Try.func32, Try.ntmps32
  go_wp2
  rw [← HW0.out]
  go_loopw [14] (fun i wr => ∃ k : Nat, k ≤ l.length ∧ i = .int .i64 (k : Int) ∧ Hid (allF (pairI d r l) k = none) ∧ Hid (Below W0.heap.size W0 wr)) (fun i _ => l.length - (intOf i).toNat)
  case atStart => exact ⟨0, Nat.zero_le _, rfl, Lib.hid rfl, Lib.hid (Below.refl _ _)⟩
  case round =>
    obtain ⟨k, hk, rfl, hA, hb⟩ := hrel
    have BR := Lib.hid (B.out.trans (hb.out.mono B.out.size))
    by_cases hlt : k < l.length
    rotate_left
    · obtain rfl : k = l.length := by omega
      have E := Lib.hid (show firstC d r l = none from hA.out)
      go_wp2
      refine bodyPost_ret (v := .tuple #[.int .i64 (-1), .int .i64 (-1), .int .i64 0]) (by simp [results, Try.results32, go_sem]) rfl ⟨by rw [E.out]; first | rfl | simp [fcI, fcK, fcN], BR.out⟩
    obtain ⟨wo, rfl⟩ : ∃ W, W = wr := ⟨_, rfl⟩
    have hzo := hb.out.size
    go_wp2
    go_loopw [10] (fun i wr => ∃ j : Nat, j ≤ k ∧ i = .int .i64 (j : Int) ∧ Hid (rowF (pairI d r l) k j = none) ∧ Hid (Below W0.heap.size W0 wr)) (fun i _ => k - (intOf i).toNat)
    case atStart => exact ⟨0, Nat.zero_le _, rfl, Lib.hid rfl, hb⟩
    case round =>
      clear BR hb hzo
      obtain ⟨j, hj, rfl, hR, hb⟩ := hrel
      have BI := Lib.hid (B.out.trans (hb.out.mono B.out.size))
      have hzi := hb.out.size
      by_cases hjt : j < k
      rotate_left
      · obtain rfl : j = k := by omega
        have AN := Lib.hid (allF_next hA.out hR.out)
        go_wp2
        go_roundw
        case rel => exact ⟨j + 1, by omega, by go_num, AN, hb⟩
        case measure => simp [intOf]; omega
      obtain ⟨p, hp⟩ : ∃ x, l[j]? = some x := ⟨_, List.getElem?_eq_getElem (by omega)⟩
      obtain ⟨q, hq⟩ : ∃ x, l[k]? = some x := ⟨_, List.getElem?_eq_getElem hlt⟩
      have HPI := Lib.hid (pairI_at (d := d) (r := r) hp hq)
      have WP := Lib.hid (Nl.out p (List.mem_of_getElem? hp))
      have WQ := Lib.hid (Nl.out q (List.mem_of_getElem? hq))
      rcases Rl.out.2 with ⟨he, _⟩ | ⟨gl, ol, cl', e, lpos, lcap, lc⟩
      · rw [he] at hlt; simp at hlt
      injection e with hA' _ hcp'
      subst hA' hcp'
      obtain ⟨p0, p1, p2, p3, p4⟩ := SlPassage.cells lc j p hp
      obtain ⟨q0, q1, q2, q3, q4⟩ := SlPassage.cells lc k q hq
      have Kd_i := Lib.hid (Kd.out.below hb.out)
      have Kr_i := Lib.hid (Kr.out.below hb.out)
      have Fp0 := Lib.hid (show wr.cell? ⟨gl, ol + j * 5, none⟩ = some (.int .i64 p.ship) from cell_onV p0 BI.out)
      have Fp1 := Lib.hid (show wr.cell? ⟨gl, ol + j * 5 + 1, none⟩ = some (.int .i64 p.segment) from cell_onV p1 BI.out)
      have Fp2 := Lib.hid (show wr.cell? ⟨gl, ol + j * 5 + 2, none⟩ = some (.bool p.toward) from cell_onV p2 BI.out)
      have Fp3 := Lib.hid (show wr.cell? ⟨gl, ol + j * 5 + 3, none⟩ = some (.int .i64 p.start) from cell_onV p3 BI.out)
      have Fp4 := Lib.hid (show wr.cell? ⟨gl, ol + j * 5 + 4, none⟩ = some (.int .i64 p.stop) from cell_onV p4 BI.out)
      have Fq0 := Lib.hid (show wr.cell? ⟨gl, ol + k * 5, none⟩ = some (.int .i64 q.ship) from cell_onV q0 BI.out)
      have Fq1 := Lib.hid (show wr.cell? ⟨gl, ol + k * 5 + 1, none⟩ = some (.int .i64 q.segment) from cell_onV q1 BI.out)
      have Fq2 := Lib.hid (show wr.cell? ⟨gl, ol + k * 5 + 2, none⟩ = some (.bool q.toward) from cell_onV q2 BI.out)
      have Fq3 := Lib.hid (show wr.cell? ⟨gl, ol + k * 5 + 3, none⟩ = some (.int .i64 q.start) from cell_onV q3 BI.out)
      have Fq4 := Lib.hid (show wr.cell? ⟨gl, ol + k * 5 + 4, none⟩ = some (.int .i64 q.stop) from cell_onV q4 BI.out)
      clear p0 p1 p2 p3 p4 q0 q1 q2 q3 q4 lc hp hq
      have hjl : j < l.length := by omega
      obtain ⟨n, hn⟩ : ∃ n, confI d r p q = n := ⟨_, rfl⟩
      have HN := Lib.hid hn
      have HPN := Lib.hid (HPI.out.trans hn)
      clear hn
      have Fd0 := Lib.hid (show wr.cell? ⟨w.heap.size, 0, none⟩ = some (.slice Ad0 d.points.length cd0) from Kd_i.out.cell 0)
      have Fd1 := Lib.hid (show wr.cell? ⟨w.heap.size, 1, none⟩ = some (.slice Ad1 d.segs.length cd1) from Kd_i.out.cell 1)
      have Fr0 := Lib.hid (show wr.cell? ⟨w.heap.size + 1, 0, none⟩ = some (.int .i64 r.gap) from Kr_i.out.cell 0)
      have Fr1 := Lib.hid (show wr.cell? ⟨w.heap.size + 1, 1, none⟩ = some (.bool r.noMeet) from Kr_i.out.cell 1)
      have DD := Lib.hid ((Below.refl wr.heap.size wr).drew)
      have vFd0 := Fd0.out
      have vFd1 := Fd1.out
      have vFr0 := Fr0.out
      have vFr1 := Fr1.out
      have vFp0 := Fp0.out
      have vFp1 := Fp1.out
      have vFp2 := Fp2.out
      have vFp3 := Fp3.out
      have vFp4 := Fp4.out
      have vFq0 := Fq0.out
      have vFq1 := Fq1.out
      have vFq2 := Fq2.out
      have vFq3 := Fq3.out
      have vFq4 := Fq4.out
      go_upto_region 7 with fail
      refine wp_region_held_drew (S := (fun w' => w'.cell? ⟨w.heap.size, 0, none⟩ = some (.slice Ad0 d.points.length cd0) ∧ w'.cell? ⟨w.heap.size, 1, none⟩ = some (.slice Ad1 d.segs.length cd1) ∧ w'.cell? ⟨w.heap.size + 1, 0, none⟩ = some (.int .i64 r.gap) ∧ w'.cell? ⟨w.heap.size + 1, 1, none⟩ = some (.bool r.noMeet) ∧ w'.cell? ⟨gl, ol + j * 5, none⟩ = some (.int .i64 p.ship) ∧ w'.cell? ⟨gl, ol + j * 5 + 1, none⟩ = some (.int .i64 p.segment) ∧ w'.cell? ⟨gl, ol + j * 5 + 2, none⟩ = some (.bool p.toward) ∧ w'.cell? ⟨gl, ol + j * 5 + 3, none⟩ = some (.int .i64 p.start) ∧ w'.cell? ⟨gl, ol + j * 5 + 4, none⟩ = some (.int .i64 p.stop) ∧ w'.cell? ⟨gl, ol + k * 5, none⟩ = some (.int .i64 q.ship) ∧ w'.cell? ⟨gl, ol + k * 5 + 1, none⟩ = some (.int .i64 q.segment) ∧ w'.cell? ⟨gl, ol + k * 5 + 2, none⟩ = some (.bool q.toward) ∧ w'.cell? ⟨gl, ol + k * 5 + 3, none⟩ = some (.int .i64 q.start) ∧ w'.cell? ⟨gl, ol + k * 5 + 4, none⟩ = some (.int .i64 q.stop) ∧ Hid (Below wr.heap.size wr w'))) (by kernel_rfl) ?_ (fun hHeld => ?_)
      · (try dsimp only); go_keep
      refine wpAnyH_take (i := 0) (v := ?_) (by simp only [List.getElem?_toArray, List.getElem?_cons_zero]; rfl) (by kernel_rfl) (by kernel_rfl) (by kernel_rfl) (by exact fun _ _ _ h => h) (Or.inl ⟨by rfl, ?_⟩) (by assumption) ?_; rotate_left; focus (intro w hSw; (try dsimp only at hSw); first | (go_simp; done) | (go_simp; with_reducible rfl))
      try simp only [Act.put, List.setIfInBounds_toArray, List.set_cons_zero, List.set_cons_succ]
      refine wpAnyH_take (i := 1) (v := ?_) (by simp only [List.getElem?_toArray, List.getElem?_cons_succ, List.getElem?_cons_zero]; rfl) (by kernel_rfl) (by kernel_rfl) (by kernel_rfl) (by exact fun _ _ _ h => h) (Or.inl ⟨by rfl, ?_⟩) (by assumption) ?_; rotate_left; focus (intro w hSw; (try dsimp only at hSw); first | (go_simp; done) | (go_simp; with_reducible rfl))
      try simp only [Act.put, List.setIfInBounds_toArray, List.set_cons_zero, List.set_cons_succ]
      refine wpAnyH_take (i := 2) (v := ?_) (by simp only [List.getElem?_toArray, List.getElem?_cons_succ, List.getElem?_cons_zero]; rfl) (by kernel_rfl) (by kernel_rfl) (by kernel_rfl) (by exact fun _ _ _ h => h) (Or.inl ⟨by rfl, ?_⟩) (by assumption) ?_; rotate_left; focus (intro w hSw; (try dsimp only at hSw); first | (go_simp; done) | (go_simp; with_reducible rfl))
      try simp only [Act.put, List.setIfInBounds_toArray, List.set_cons_zero, List.set_cons_succ]
      refine wpAnyH_take (i := 3) (v := ?_) (by simp only [List.getElem?_toArray, List.getElem?_cons_succ, List.getElem?_cons_zero]; rfl) (by kernel_rfl) (by kernel_rfl) (by kernel_rfl) (by exact fun _ _ _ h => h) (Or.inl ⟨by rfl, ?_⟩) (by assumption) ?_; rotate_left; focus (intro w hSw; (try dsimp only at hSw); first | (go_simp; done) | (go_simp; with_reducible rfl))
      try simp only [Act.put, List.setIfInBounds_toArray, List.set_cons_zero, List.set_cons_succ]
      refine wpAnyH_take (i := 4) (v := ?_) (by simp only [List.getElem?_toArray, List.getElem?_cons_succ, List.getElem?_cons_zero]; rfl) (by kernel_rfl) (by kernel_rfl) (by kernel_rfl) (by exact fun _ _ _ h => h) (Or.inl ⟨by rfl, ?_⟩) (by assumption) ?_; rotate_left; focus (intro w hSw; (try dsimp only at hSw); first | (go_simp; done) | (go_simp; with_reducible rfl))
      try simp only [Act.put, List.setIfInBounds_toArray, List.set_cons_zero, List.set_cons_succ]
      refine wpAnyH_take (i := 5) (v := ?_) (by simp only [List.getElem?_toArray, List.getElem?_cons_succ, List.getElem?_cons_zero]; rfl) (by kernel_rfl) (by kernel_rfl) (by kernel_rfl) (by exact fun _ _ _ h => h) (Or.inl ⟨by rfl, ?_⟩) (by assumption) ?_; rotate_left; focus (intro w hSw; (try dsimp only at hSw); first | (go_simp; done) | (go_simp; with_reducible rfl))
      try simp only [Act.put, List.setIfInBounds_toArray, List.set_cons_zero, List.set_cons_succ]
      refine wpAnyH_take (i := 6) (v := ?_) (by simp only [List.getElem?_toArray, List.getElem?_cons_succ, List.getElem?_cons_zero]; rfl) (by kernel_rfl) (by kernel_rfl) (by kernel_rfl) (by exact fun _ _ _ h => h) (Or.inl ⟨by rfl, ?_⟩) (by assumption) ?_; rotate_left; focus (intro w hSw; (try dsimp only at hSw); first | (go_simp; done) | (go_simp; with_reducible rfl))
      try simp only [Act.put, List.setIfInBounds_toArray, List.set_cons_zero, List.set_cons_succ]
      refine wpAnyH_take (i := 7) (v := ?_) (by simp only [List.getElem?_toArray, List.getElem?_cons_succ, List.getElem?_cons_zero]; rfl) (by kernel_rfl) (by kernel_rfl) (by kernel_rfl) (by exact fun _ _ _ h => h) (Or.inl ⟨by rfl, ?_⟩) (by assumption) ?_; rotate_left; focus (intro w hSw; (try dsimp only at hSw); first | (go_simp; done) | (go_simp; with_reducible rfl))
      try simp only [Act.put, List.setIfInBounds_toArray, List.set_cons_zero, List.set_cons_succ]
      refine wpAnyH_take (i := 8) (v := ?_) (by simp only [List.getElem?_toArray, List.getElem?_cons_succ, List.getElem?_cons_zero]; rfl) (by kernel_rfl) (by kernel_rfl) (by kernel_rfl) (by exact fun _ _ _ h => h) (Or.inl ⟨by rfl, ?_⟩) (by assumption) ?_; rotate_left; focus (intro w hSw; (try dsimp only at hSw); first | (go_simp; done) | (go_simp; with_reducible rfl))
      try simp only [Act.put, List.setIfInBounds_toArray, List.set_cons_zero, List.set_cons_succ]
      refine wpAnyH_take (i := 9) (v := ?_) (by simp only [List.getElem?_toArray, List.getElem?_cons_succ, List.getElem?_cons_zero]; rfl) (by kernel_rfl) (by kernel_rfl) (by kernel_rfl) (by exact fun _ _ _ h => h) (Or.inl ⟨by rfl, ?_⟩) (by assumption) ?_; rotate_left; focus (intro w hSw; (try dsimp only at hSw); first | (go_simp; done) | (go_simp; with_reducible rfl))
      try simp only [Act.put, List.setIfInBounds_toArray, List.set_cons_zero, List.set_cons_succ]
      refine wpAnyH_ready (rs := [10]) (by kernel_rfl) (by simp) ?_
      refine AllReadyH.cons rfl (fun K hK => ?_) AllReadyH.nil
      rw [if_pos (by rfl)]
      go_simp
      go_at_call 27
      have kB := hHeld.2.2.2.2.2.2.2.2.2.2.2.2.2.2
      refine (specConflictOf _ _ d r p q _ (Rd.out.below (BI.out.trans (kB.out.mono BI.out.size))) Nd.out WP.out WQ.out).mono ?_
      rw [HN.out]
      rintro e wq0_10 ⟨rfl, hbk⟩
      have HBK := kB.out.trans (hbk.mono kB.out.size)
      have QS := Lib.hid (show wq0_10.cell? ⟨w.heap.size, 0, none⟩ = some (.slice Ad0 d.points.length cd0) ∧ wq0_10.cell? ⟨w.heap.size, 1, none⟩ = some (.slice Ad1 d.segs.length cd1) ∧ wq0_10.cell? ⟨w.heap.size + 1, 0, none⟩ = some (.int .i64 r.gap) ∧ wq0_10.cell? ⟨w.heap.size + 1, 1, none⟩ = some (.bool r.noMeet) ∧ wq0_10.cell? ⟨gl, ol + j * 5, none⟩ = some (.int .i64 p.ship) ∧ wq0_10.cell? ⟨gl, ol + j * 5 + 1, none⟩ = some (.int .i64 p.segment) ∧ wq0_10.cell? ⟨gl, ol + j * 5 + 2, none⟩ = some (.bool p.toward) ∧ wq0_10.cell? ⟨gl, ol + j * 5 + 3, none⟩ = some (.int .i64 p.start) ∧ wq0_10.cell? ⟨gl, ol + j * 5 + 4, none⟩ = some (.int .i64 p.stop) ∧ wq0_10.cell? ⟨gl, ol + k * 5, none⟩ = some (.int .i64 q.ship) ∧ wq0_10.cell? ⟨gl, ol + k * 5 + 1, none⟩ = some (.int .i64 q.segment) ∧ wq0_10.cell? ⟨gl, ol + k * 5 + 2, none⟩ = some (.bool q.toward) ∧ wq0_10.cell? ⟨gl, ol + k * 5 + 3, none⟩ = some (.int .i64 q.start) ∧ wq0_10.cell? ⟨gl, ol + k * 5 + 4, none⟩ = some (.int .i64 q.stop) ∧ Hid (Below wr.heap.size wr wq0_10) from ⟨cell_onV Fd0.out HBK, cell_onV Fd1.out HBK, cell_onV Fr0.out HBK, cell_onV Fr1.out HBK, cell_onV Fp0.out HBK, cell_onV Fp1.out HBK, cell_onV Fp2.out HBK, cell_onV Fp3.out HBK, cell_onV Fp4.out HBK, cell_onV Fq0.out HBK, cell_onV Fq1.out HBK, cell_onV Fq2.out HBK, cell_onV Fq3.out HBK, cell_onV Fq4.out HBK, Lib.hid HBK⟩)
      clear hbk kB hHeld HBK
      go_simp
      refine hK.out _ _ ?_ (fun hHeld => ?_)
      · (try dsimp only); exact QS.out
      clear hK K
      try simp only [Act.put, List.setIfInBounds_toArray, List.set_cons_zero, List.set_cons_succ]
      refine wpAnyH_take (i := 11) (v := ?_) (by simp only [List.getElem?_toArray, List.getElem?_cons_succ, List.getElem?_cons_zero]; rfl) (by kernel_rfl) (by kernel_rfl) (by kernel_rfl) (by exact fun _ _ _ h => h) (Or.inl ⟨by rfl, ?_⟩) (by assumption) ?_; rotate_left; focus (intro w hSw; (try dsimp only at hSw); first | (go_simp; done) | (go_simp; with_reducible rfl))
      try simp only [Act.put, List.setIfInBounds_toArray, List.set_cons_zero, List.set_cons_succ]
      refine wpAnyH_done (by kernel_rfl) ?_ _
      have hbz := Lib.hid (hb.out.trans (hHeld.2.2.2.2.2.2.2.2.2.2.2.2.2.2.out.mono hb.out.size))
      have BZ := Lib.hid (BI.out.trans (hHeld.2.2.2.2.2.2.2.2.2.2.2.2.2.2.out.mono BI.out.size))
      clear hHeld DD
      by_cases hn0 : n = 0
      · have RN := Lib.hid (rowF_no hR.out (HPN.out.trans hn0))
        have hne : (n != 0) = false := by simpa using hn0
        clear hn0
        go_wp2
        go_roundw
        case rel => exact ⟨j + 1, by omega, by go_num, RN, hbz⟩
        case measure => simp [intOf]; omega
      have E := Lib.hid (show firstC d r l = some (j, k, n) by unfold firstC; rw [allF_yes hA.out hR.out (by rw [HPN.out]; exact hn0) hjt hlt, HPN.out])
      have hne : (n != 0) = true := by simpa using hn0
      go_wp2
      refine bodyPost_ret (v := .tuple #[.int .i64 (j : Int), .int .i64 (k : Int), .int .i64 n]) (by simp [results, Try.results32, go_sem]) rfl ⟨by rw [E.out]; first | rfl | simp [fcI, fcK, fcN], BZ.out⟩

set_option maxHeartbeats 4000000 in
theorem specIsClear (yd0 yd1 : Value) (d : ChartD) (r : RegimeD) (yl : Value) (l : List PassageD) (w : World) (rd : RdChart w yd0 yd1 d) (rl : SlPassage w yl l) (fd : ∀ x ∈ d.points, PointD.wf x) (fl : ∀ x ∈ l, PassageD.wf x) :
    Calls Try.prog 35 #[.agg #[yd0, yd1], r.val, yl] w (fun e w' => e = .returned (.bool (clearB d r l)) ∧ Below w.heap.size w w') := by
  have Rd := Lib.hid rd
  obtain ⟨rd0, rd1⟩ := rd
  obtain ⟨Ad0, cd0, rfl⟩ := SlOf.form rd0
  obtain ⟨Ad1, cd1, rfl⟩ := SlOf.form rd1
  have Nd := Lib.hid fd
  clear fd
  clear rd0 rd1
  have Rl := Lib.hid rl
  obtain ⟨Al, cl, rfl⟩ := SlOf.form rl
  clear rl
  have Nl := Lib.hid fl
  clear fl
  obtain ⟨W0, hW0⟩ : ∃ W0, W0 = ((w.alloc (.cells #[.slice Ad0 d.points.length cd0, .slice Ad1 d.segs.length cd1] 26)).alloc (.cells #[.int .i64 r.gap, .bool r.noMeet] 28)) := ⟨_, rfl⟩
  have B := Lib.hid ((Joins.below_alloc1 w (.cells #[.slice Ad0 d.points.length cd0, .slice Ad1 d.segs.length cd1] 26)).trans ((Joins.below_alloc1 (w.alloc (.cells #[.slice Ad0 d.points.length cd0, .slice Ad1 d.segs.length cd1] 26)) (.cells #[.int .i64 r.gap, .bool r.noMeet] 28)).mono (by simp; try omega)))
  have Kd := Lib.hid ((Blk.new w #[.slice Ad0 d.points.length cd0, .slice Ad1 d.segs.length cd1] 26).below (Joins.below_alloc1 _ (.cells #[.int .i64 r.gap, .bool r.noMeet] 28)))
  have Kr := Lib.hid (Blk.new (w.alloc (.cells #[.slice Ad0 d.points.length cd0, .slice Ad1 d.segs.length cd1] 26)) #[.int .i64 r.gap, .bool r.noMeet] 28)
  rw [World.size_alloc] at Kr
  have HW0 := Lib.hid hW0
  rw [← hW0] at B Kd Kr
  clear hW0
  obtain ⟨x, hx⟩ : ∃ x, chartB d = x := ⟨_, rfl⟩
  obtain ⟨y, hy⟩ : ∃ y, regB r = y := ⟨_, rfl⟩
  obtain ⟨f, hf⟩ : ∃ f, firstC d r l = f := ⟨_, rfl⟩
  obtain ⟨n, hn⟩ : ∃ n, fcN f = n := ⟨_, rfl⟩
  have E0 := Lib.hid (show clearB d r l = (x && y && (n == 0)) by unfold clearB; rw [hx, hy, hf, hn])
  have HX := Lib.hid hx
  have HY := Lib.hid hy
  have HF := Lib.hid hf
  have HN := Lib.hid hn
  clear hx hy hf hn
  cases x with
  | false =>
    have E := Lib.hid (E0.out.trans (show _ = false by simp))
    go_enter Try.func35, Try.ntmps35
    have vd0 : W0.cell? ⟨w.heap.size, 0, none⟩ = some (.slice Ad0 d.points.length cd0) := Kd.out.cell 0
    have vd1 : W0.cell? ⟨w.heap.size, 1, none⟩ = some (.slice Ad1 d.segs.length cd1) := Kd.out.cell 1
    have vr0 : W0.cell? ⟨w.heap.size + 1, 0, none⟩ = some (.int .i64 r.gap) := Kr.out.cell 0
    have vr1 : W0.cell? ⟨w.heap.size + 1, 1, none⟩ = some (.bool r.noMeet) := Kr.out.cell 1
    go_wp2_with fail
    rw [← HW0.out]
    clear vd0 vd1 vr0 vr1
    refine (specFirstConflict _ _ d r _ l _ (Rd.out.below B.out) (Rl.out.below B.out) Nd.out Nl.out).mono ?_
    rw [HF.out, HN.out]
    rintro e w1 ⟨rfl, hb1⟩
    have B1 := Lib.hid (B.out.trans (hb1.mono B.out.size))
    have Kd_1 := Lib.hid (Kd.out.below hb1)
    have Kr_1 := Lib.hid (Kr.out.below hb1)
    clear hb1
    have vd0 : w1.cell? ⟨w.heap.size, 0, none⟩ = some (.slice Ad0 d.points.length cd0) := Kd_1.out.cell 0
    have vd1 : w1.cell? ⟨w.heap.size, 1, none⟩ = some (.slice Ad1 d.segs.length cd1) := Kd_1.out.cell 1
    have vr0 : w1.cell? ⟨w.heap.size + 1, 0, none⟩ = some (.int .i64 r.gap) := Kr_1.out.cell 0
    have vr1 : w1.cell? ⟨w.heap.size + 1, 1, none⟩ = some (.bool r.noMeet) := Kr_1.out.cell 1
    go_wp2_with fail
    clear vd0 vd1 vr0 vr1
    refine (specChartOk _ _ d _ (Rd.out.below B1.out) Nd.out).mono ?_
    rw [HX.out]
    rintro e w2 ⟨rfl, hb2⟩
    have B2 := Lib.hid (B1.out.trans (hb2.mono B1.out.size))
    have Kd_2 := Lib.hid (Kd_1.out.below hb2)
    have Kr_2 := Lib.hid (Kr_1.out.below hb2)
    clear hb2
    have vd0 : w2.cell? ⟨w.heap.size, 0, none⟩ = some (.slice Ad0 d.points.length cd0) := Kd_2.out.cell 0
    have vd1 : w2.cell? ⟨w.heap.size, 1, none⟩ = some (.slice Ad1 d.segs.length cd1) := Kd_2.out.cell 1
    have vr0 : w2.cell? ⟨w.heap.size + 1, 0, none⟩ = some (.int .i64 r.gap) := Kr_2.out.cell 0
    have vr1 : w2.cell? ⟨w.heap.size + 1, 1, none⟩ = some (.bool r.noMeet) := Kr_2.out.cell 1
    go_wp2
    go_ret
    exact ⟨ret_bool E.out.symm, B2.out⟩
  | true =>
  cases y with
  | false =>
    have E := Lib.hid (E0.out.trans (show _ = false by simp))
    go_enter Try.func35, Try.ntmps35
    have vd0 : W0.cell? ⟨w.heap.size, 0, none⟩ = some (.slice Ad0 d.points.length cd0) := Kd.out.cell 0
    have vd1 : W0.cell? ⟨w.heap.size, 1, none⟩ = some (.slice Ad1 d.segs.length cd1) := Kd.out.cell 1
    have vr0 : W0.cell? ⟨w.heap.size + 1, 0, none⟩ = some (.int .i64 r.gap) := Kr.out.cell 0
    have vr1 : W0.cell? ⟨w.heap.size + 1, 1, none⟩ = some (.bool r.noMeet) := Kr.out.cell 1
    go_wp2_with fail
    rw [← HW0.out]
    clear vd0 vd1 vr0 vr1
    refine (specFirstConflict _ _ d r _ l _ (Rd.out.below B.out) (Rl.out.below B.out) Nd.out Nl.out).mono ?_
    rw [HF.out, HN.out]
    rintro e w1 ⟨rfl, hb1⟩
    have B1 := Lib.hid (B.out.trans (hb1.mono B.out.size))
    have Kd_1 := Lib.hid (Kd.out.below hb1)
    have Kr_1 := Lib.hid (Kr.out.below hb1)
    clear hb1
    have vd0 : w1.cell? ⟨w.heap.size, 0, none⟩ = some (.slice Ad0 d.points.length cd0) := Kd_1.out.cell 0
    have vd1 : w1.cell? ⟨w.heap.size, 1, none⟩ = some (.slice Ad1 d.segs.length cd1) := Kd_1.out.cell 1
    have vr0 : w1.cell? ⟨w.heap.size + 1, 0, none⟩ = some (.int .i64 r.gap) := Kr_1.out.cell 0
    have vr1 : w1.cell? ⟨w.heap.size + 1, 1, none⟩ = some (.bool r.noMeet) := Kr_1.out.cell 1
    go_wp2_with fail
    clear vd0 vd1 vr0 vr1
    refine (specChartOk _ _ d _ (Rd.out.below B1.out) Nd.out).mono ?_
    rw [HX.out]
    rintro e w2 ⟨rfl, hb2⟩
    have B2 := Lib.hid (B1.out.trans (hb2.mono B1.out.size))
    have Kd_2 := Lib.hid (Kd_1.out.below hb2)
    have Kr_2 := Lib.hid (Kr_1.out.below hb2)
    clear hb2
    have vd0 : w2.cell? ⟨w.heap.size, 0, none⟩ = some (.slice Ad0 d.points.length cd0) := Kd_2.out.cell 0
    have vd1 : w2.cell? ⟨w.heap.size, 1, none⟩ = some (.slice Ad1 d.segs.length cd1) := Kd_2.out.cell 1
    have vr0 : w2.cell? ⟨w.heap.size + 1, 0, none⟩ = some (.int .i64 r.gap) := Kr_2.out.cell 0
    have vr1 : w2.cell? ⟨w.heap.size + 1, 1, none⟩ = some (.bool r.noMeet) := Kr_2.out.cell 1
    go_wp2_with fail
    clear vd0 vd1 vr0 vr1
    refine (specRegimeOk r _).mono ?_
    rw [HY.out]
    rintro e w3 ⟨rfl, hb3⟩
    have B3 := Lib.hid (B2.out.trans (hb3.mono B2.out.size))
    have Kd_3 := Lib.hid (Kd_2.out.below hb3)
    have Kr_3 := Lib.hid (Kr_2.out.below hb3)
    clear hb3
    have vd0 : w3.cell? ⟨w.heap.size, 0, none⟩ = some (.slice Ad0 d.points.length cd0) := Kd_3.out.cell 0
    have vd1 : w3.cell? ⟨w.heap.size, 1, none⟩ = some (.slice Ad1 d.segs.length cd1) := Kd_3.out.cell 1
    have vr0 : w3.cell? ⟨w.heap.size + 1, 0, none⟩ = some (.int .i64 r.gap) := Kr_3.out.cell 0
    have vr1 : w3.cell? ⟨w.heap.size + 1, 1, none⟩ = some (.bool r.noMeet) := Kr_3.out.cell 1
    go_wp2
    go_ret
    exact ⟨ret_bool E.out.symm, B3.out⟩
  | true =>
  have E := Lib.hid (E0.out.trans (show _ = (n == 0) by simp))
  go_enter Try.func35, Try.ntmps35
  have vd0 : W0.cell? ⟨w.heap.size, 0, none⟩ = some (.slice Ad0 d.points.length cd0) := Kd.out.cell 0
  have vd1 : W0.cell? ⟨w.heap.size, 1, none⟩ = some (.slice Ad1 d.segs.length cd1) := Kd.out.cell 1
  have vr0 : W0.cell? ⟨w.heap.size + 1, 0, none⟩ = some (.int .i64 r.gap) := Kr.out.cell 0
  have vr1 : W0.cell? ⟨w.heap.size + 1, 1, none⟩ = some (.bool r.noMeet) := Kr.out.cell 1
  go_wp2_with fail
  rw [← HW0.out]
  clear vd0 vd1 vr0 vr1
  refine (specFirstConflict _ _ d r _ l _ (Rd.out.below B.out) (Rl.out.below B.out) Nd.out Nl.out).mono ?_
  rw [HF.out, HN.out]
  rintro e w1 ⟨rfl, hb1⟩
  have B1 := Lib.hid (B.out.trans (hb1.mono B.out.size))
  have Kd_1 := Lib.hid (Kd.out.below hb1)
  have Kr_1 := Lib.hid (Kr.out.below hb1)
  clear hb1
  have vd0 : w1.cell? ⟨w.heap.size, 0, none⟩ = some (.slice Ad0 d.points.length cd0) := Kd_1.out.cell 0
  have vd1 : w1.cell? ⟨w.heap.size, 1, none⟩ = some (.slice Ad1 d.segs.length cd1) := Kd_1.out.cell 1
  have vr0 : w1.cell? ⟨w.heap.size + 1, 0, none⟩ = some (.int .i64 r.gap) := Kr_1.out.cell 0
  have vr1 : w1.cell? ⟨w.heap.size + 1, 1, none⟩ = some (.bool r.noMeet) := Kr_1.out.cell 1
  go_wp2_with fail
  clear vd0 vd1 vr0 vr1
  refine (specChartOk _ _ d _ (Rd.out.below B1.out) Nd.out).mono ?_
  rw [HX.out]
  rintro e w2 ⟨rfl, hb2⟩
  have B2 := Lib.hid (B1.out.trans (hb2.mono B1.out.size))
  have Kd_2 := Lib.hid (Kd_1.out.below hb2)
  have Kr_2 := Lib.hid (Kr_1.out.below hb2)
  clear hb2
  have vd0 : w2.cell? ⟨w.heap.size, 0, none⟩ = some (.slice Ad0 d.points.length cd0) := Kd_2.out.cell 0
  have vd1 : w2.cell? ⟨w.heap.size, 1, none⟩ = some (.slice Ad1 d.segs.length cd1) := Kd_2.out.cell 1
  have vr0 : w2.cell? ⟨w.heap.size + 1, 0, none⟩ = some (.int .i64 r.gap) := Kr_2.out.cell 0
  have vr1 : w2.cell? ⟨w.heap.size + 1, 1, none⟩ = some (.bool r.noMeet) := Kr_2.out.cell 1
  go_wp2_with fail
  clear vd0 vd1 vr0 vr1
  refine (specRegimeOk r _).mono ?_
  rw [HY.out]
  rintro e w3 ⟨rfl, hb3⟩
  have B3 := Lib.hid (B2.out.trans (hb3.mono B2.out.size))
  have Kd_3 := Lib.hid (Kd_2.out.below hb3)
  have Kr_3 := Lib.hid (Kr_2.out.below hb3)
  clear hb3
  have vd0 : w3.cell? ⟨w.heap.size, 0, none⟩ = some (.slice Ad0 d.points.length cd0) := Kd_3.out.cell 0
  have vd1 : w3.cell? ⟨w.heap.size, 1, none⟩ = some (.slice Ad1 d.segs.length cd1) := Kd_3.out.cell 1
  have vr0 : w3.cell? ⟨w.heap.size + 1, 0, none⟩ = some (.int .i64 r.gap) := Kr_3.out.cell 0
  have vr1 : w3.cell? ⟨w.heap.size + 1, 1, none⟩ = some (.bool r.noMeet) := Kr_3.out.cell 1
  go_wp2
  go_ret
  exact ⟨ret_bool E.out.symm, B3.out⟩

/-- No passage of the first k of one list is in conflict with one of another. -/
def NoHit (d : ChartD) (r : RegimeD) (a b : List PassageD) (k : Nat) : Prop := ∀ i p, i < k → a[i]? = some p → ∀ q ∈ b, confI d r p q = 0
def NoHit1 (d : ChartD) (r : RegimeD) (p : PassageD) (b : List PassageD) (j : Nat) : Prop := ∀ i q, i < j → b[i]? = some q → confI d r p q = 0
theorem NoHit1.next {d : ChartD} {r : RegimeD} {p q : PassageD} {b : List PassageD} {j : Nat} (h : NoHit1 d r p b j) (hq : b[j]? = some q) (hn : confI d r p q = 0) : NoHit1 d r p b (j + 1) := fun i x hi hx => by
  by_cases e : i = j
  · subst e; rw [hq] at hx; injection hx with hx; rw [← hx]; exact hn
  · exact h i x (by omega) hx
theorem NoHit.next {d : ChartD} {r : RegimeD} {p : PassageD} {a b : List PassageD} {k : Nat} (h : NoHit d r a b k) (hp : a[k]? = some p) (hn : NoHit1 d r p b b.length) : NoHit d r a b (k + 1) := fun i x hi hx q hq => by
  by_cases e : i = k
  · subst e; rw [hp] at hx; injection hx with hx; rw [← hx]
    obtain ⟨j, hj, e⟩ := List.getElem_of_mem hq
    exact hn j q hj (by rw [List.getElem?_eq_getElem hj, e])
  · exact h i x (by omega) hx q hq
theorem NoHit.all {d : ChartD} {r : RegimeD} {a b : List PassageD} (h : NoHit d r a b a.length) : clashB d r a b = false := clashB_no fun p hp q hq => by
  obtain ⟨i, hi, e⟩ := List.getElem_of_mem hp
  exact h i p hi (by rw [List.getElem?_eq_getElem hi, e]) q hq


set_option maxHeartbeats 8000000 in
theorem specClashes (yd0 yd1 : Value) (d : ChartD) (r : RegimeD) (ya : Value) (a : List PassageD) (yb : Value) (b : List PassageD) (w : World) (rd : RdChart w yd0 yd1 d) (ra : SlPassage w ya a) (rb : SlPassage w yb b) (fd : ∀ x ∈ d.points, PointD.wf x) (fa : ∀ x ∈ a, PassageD.wf x) (fb : ∀ x ∈ b, PassageD.wf x) :
    Calls Try.prog 36 #[.agg #[yd0, yd1], r.val, ya, yb] w (fun e w' => e = .returned (.bool (clashB d r a b)) ∧ Below w.heap.size w w') := by
  have Rd := Lib.hid rd
  obtain ⟨rd0, rd1⟩ := rd
  obtain ⟨Ad0, cd0, rfl⟩ := SlOf.form rd0
  obtain ⟨Ad1, cd1, rfl⟩ := SlOf.form rd1
  have Nd := Lib.hid fd
  clear fd
  clear rd0 rd1
  have Ra := Lib.hid ra
  obtain ⟨Aa, ca, rfl⟩ := SlOf.form ra
  clear ra
  have Na := Lib.hid fa
  clear fa
  have Rb := Lib.hid rb
  obtain ⟨Ab, cb, rfl⟩ := SlOf.form rb
  clear rb
  have Nb := Lib.hid fb
  clear fb
  obtain ⟨W0, hW0⟩ : ∃ W0, W0 = ((w.alloc (.cells #[.slice Ad0 d.points.length cd0, .slice Ad1 d.segs.length cd1] 26)).alloc (.cells #[.int .i64 r.gap, .bool r.noMeet] 28)) := ⟨_, rfl⟩
  have B := Lib.hid ((Joins.below_alloc1 w (.cells #[.slice Ad0 d.points.length cd0, .slice Ad1 d.segs.length cd1] 26)).trans ((Joins.below_alloc1 (w.alloc (.cells #[.slice Ad0 d.points.length cd0, .slice Ad1 d.segs.length cd1] 26)) (.cells #[.int .i64 r.gap, .bool r.noMeet] 28)).mono (by simp; try omega)))
  have Kd := Lib.hid ((Blk.new w #[.slice Ad0 d.points.length cd0, .slice Ad1 d.segs.length cd1] 26).below (Joins.below_alloc1 _ (.cells #[.int .i64 r.gap, .bool r.noMeet] 28)))
  have Kr := Lib.hid (Blk.new (w.alloc (.cells #[.slice Ad0 d.points.length cd0, .slice Ad1 d.segs.length cd1] 26)) #[.int .i64 r.gap, .bool r.noMeet] 28)
  rw [World.size_alloc] at Kr
  have HW0 := Lib.hid hW0
  rw [← hW0] at B Kd Kr
  clear hW0
  have hla := Ra.out.1
  have hlb := Rb.out.1
  go_enter Try.func36, Try.ntmps36
  go_wp2
  rw [← HW0.out]
  go_loopw [15] (fun i wr => ∃ k : Nat, k ≤ a.length ∧ i = .int .i64 (k : Int) ∧ Hid (NoHit d r a b k) ∧ Hid (Below W0.heap.size W0 wr)) (fun i _ => a.length - (intOf i).toNat)
  case atStart => exact ⟨0, Nat.zero_le _, rfl, Lib.hid (fun i _ hi => absurd hi (by omega)), Lib.hid (Below.refl _ _)⟩
  case round =>
    obtain ⟨k, hk, rfl, hA, hb⟩ := hrel
    have BR := Lib.hid (B.out.trans (hb.out.mono B.out.size))
    by_cases hlt : k < a.length
    rotate_left
    · obtain rfl : k = a.length := by omega
      have E := Lib.hid hA.out.all
      go_wp2
      go_ret
      exact ⟨ret_bool E.out.symm, BR.out⟩
    obtain ⟨p, hp⟩ : ∃ x, a[k]? = some x := ⟨_, List.getElem?_eq_getElem hlt⟩
    have HP := Lib.hid hp
    have WP := Lib.hid (Na.out p (List.mem_of_getElem? hp))
    rcases Ra.out.2 with ⟨he, _⟩ | ⟨ga, oa, ca', e, apos, acap, ac⟩
    · rw [he] at hlt; simp at hlt
    injection e with hA' _ hcp'
    subst hA' hcp'
    obtain ⟨p0, p1, p2, p3, p4⟩ := SlPassage.cells ac k p hp
    have y0 := cell_onV p0 BR.out
    have y1 := cell_onV p1 BR.out
    have y2 := cell_onV p2 BR.out
    have y3 := cell_onV p3 BR.out
    have y4 := cell_onV p4 BR.out
    clear p0 p1 p2 p3 p4 ac hp
    go_upto_region 4 with fail
    have BL := Joins.below_alloc1 wr (.cells #[.int .i64 p.ship, .int .i64 p.segment, .bool p.toward, .int .i64 p.start, .int .i64 p.stop] 41)
    have KN := Blk.new wr #[.int .i64 p.ship, .int .i64 p.segment, .bool p.toward, .int .i64 p.start, .int .i64 p.stop] 41
    obtain ⟨wo, hwo⟩ : ∃ W, W = wr.alloc (.cells #[.int .i64 p.ship, .int .i64 p.segment, .bool p.toward, .int .i64 p.start, .int .i64 p.stop] 41) := ⟨_, rfl⟩
    rw [← hwo] at BL KN ⊢
    have hbo := Lib.hid (hb.out.trans (BL.mono hb.out.size))
    obtain ⟨bp, hbp⟩ : ∃ n, wr.heap.size = n := ⟨_, rfl⟩
    rw [hbp] at KN ⊢
    have KP := Lib.hid KN
    clear BL KN hwo BR hb hbp y0 y1 y2 y3 y4
    go_wp2
    go_loopw [21] (fun i wr => ∃ j : Nat, j ≤ b.length ∧ i = .int .i64 (j : Int) ∧ Hid (NoHit1 d r p b j) ∧ Hid (Below wo.heap.size wo wr)) (fun i _ => b.length - (intOf i).toNat)
    case atStart => exact ⟨0, Nat.zero_le _, rfl, Lib.hid (fun i _ hi => absurd hi (by omega)), Lib.hid (Below.refl _ _)⟩
    case round =>
      obtain ⟨j, hj, rfl, hR, hbi⟩ := hrel
      have hb := Lib.hid (hbo.out.trans (hbi.out.mono hbo.out.size))
      have BI := Lib.hid (B.out.trans (hb.out.mono B.out.size))
      have KPi := Lib.hid (KP.out.below hbi.out)
      by_cases hjt : j < b.length
      rotate_left
      · obtain rfl : j = b.length := by omega
        have AN := Lib.hid (hA.out.next HP.out hR.out)
        go_wp2
        go_roundw
        case rel => exact ⟨k + 1, by omega, by go_num, AN, hb⟩
        case measure => simp [intOf]; omega
      obtain ⟨q, hq⟩ : ∃ x, b[j]? = some x := ⟨_, List.getElem?_eq_getElem hjt⟩
      have HQ := Lib.hid hq
      have WQ := Lib.hid (Nb.out q (List.mem_of_getElem? hq))
      rcases Rb.out.2 with ⟨he, _⟩ | ⟨gb, ob, cb', e, bpos, bcap, bc⟩
      · rw [he] at hjt; simp at hjt
      injection e with hA' _ hcp'
      subst hA' hcp'
      obtain ⟨q0, q1, q2, q3, q4⟩ := SlPassage.cells bc j q hq
      have y0 := cell_onV q0 BI.out
      have y1 := cell_onV q1 BI.out
      have y2 := cell_onV q2 BI.out
      have y3 := cell_onV q3 BI.out
      have y4 := cell_onV q4 BI.out
      clear q0 q1 q2 q3 q4 bc hq
      go_upto_region 7 with fail
      have BL := Joins.below_alloc1 wr (.cells #[.int .i64 q.ship, .int .i64 q.segment, .bool q.toward, .int .i64 q.start, .int .i64 q.stop] 41)
      have KN := Lib.hid (Blk.new wr #[.int .i64 q.ship, .int .i64 q.segment, .bool q.toward, .int .i64 q.start, .int .i64 q.stop] 41)
      obtain ⟨w6, hw6⟩ : ∃ W, W = wr.alloc (.cells #[.int .i64 q.ship, .int .i64 q.segment, .bool q.toward, .int .i64 q.start, .int .i64 q.stop] 41) := ⟨_, rfl⟩
      rw [← hw6] at BL KN ⊢
      have B6 := Lib.hid (BI.out.trans (BL.mono BI.out.size))
      have hb6 := Lib.hid (hb.out.trans (BL.mono hb.out.size))
      have KP6 := Lib.hid (KPi.out.below BL)
      have BO6 := Lib.hid (hbi.out.trans (BL.mono hbi.out.size))
      clear hw6 BL y0 y1 y2 y3 y4
      have Kd_6 := Lib.hid (Kd.out.below hb6.out)
      have Kr_6 := Lib.hid (Kr.out.below hb6.out)
      have vp0 : w6.cell? ⟨bp, 0, none⟩ = some (.int .i64 p.ship) := KP6.out.cell 0
      have vp1 : w6.cell? ⟨bp, 1, none⟩ = some (.int .i64 p.segment) := KP6.out.cell 1
      have vp2 : w6.cell? ⟨bp, 2, none⟩ = some (.bool p.toward) := KP6.out.cell 2
      have vp3 : w6.cell? ⟨bp, 3, none⟩ = some (.int .i64 p.start) := KP6.out.cell 3
      have vp4 : w6.cell? ⟨bp, 4, none⟩ = some (.int .i64 p.stop) := KP6.out.cell 4
      have vq0 : w6.cell? ⟨wr.heap.size, 0, none⟩ = some (.int .i64 q.ship) := KN.out.cell 0
      have vq1 : w6.cell? ⟨wr.heap.size, 1, none⟩ = some (.int .i64 q.segment) := KN.out.cell 1
      have vq2 : w6.cell? ⟨wr.heap.size, 2, none⟩ = some (.bool q.toward) := KN.out.cell 2
      have vq3 : w6.cell? ⟨wr.heap.size, 3, none⟩ = some (.int .i64 q.start) := KN.out.cell 3
      have vq4 : w6.cell? ⟨wr.heap.size, 4, none⟩ = some (.int .i64 q.stop) := KN.out.cell 4
      obtain ⟨n, hn⟩ : ∃ n, confI d r p q = n := ⟨_, rfl⟩
      have HN := Lib.hid hn
      clear hn
      have vd0 : w6.cell? ⟨w.heap.size, 0, none⟩ = some (.slice Ad0 d.points.length cd0) := Kd_6.out.cell 0
      have vd1 : w6.cell? ⟨w.heap.size, 1, none⟩ = some (.slice Ad1 d.segs.length cd1) := Kd_6.out.cell 1
      have vr0 : w6.cell? ⟨w.heap.size + 1, 0, none⟩ = some (.int .i64 r.gap) := Kr_6.out.cell 0
      have vr1 : w6.cell? ⟨w.heap.size + 1, 1, none⟩ = some (.bool r.noMeet) := Kr_6.out.cell 1
      go_wp2_with fail
      clear vd0 vd1 vr0 vr1
      refine (specConflictOf _ _ d r p q _ (Rd.out.below B6.out) Nd.out WP.out WQ.out).mono ?_
      rw [HN.out]
      rintro e w7 ⟨rfl, hb7⟩
      have B7 := Lib.hid (B6.out.trans (hb7.mono B6.out.size))
      have Kd_7 := Lib.hid (Kd_6.out.below hb7)
      have Kr_7 := Lib.hid (Kr_6.out.below hb7)
      have hbz := Lib.hid (hb7.mono (Nat.le_refl _))
      clear hb7
      clear vp0 vp1 vp2 vp3 vp4 vq0 vq1 vq2 vq3 vq4
      by_cases hn0 : n = 0
      · have RN := Lib.hid (hR.out.next HQ.out (HN.out.trans hn0))
        have hne : (n != 0) = false := by simpa using hn0
        clear hn0
        go_wp2
        go_roundw
        case rel => exact ⟨j + 1, by omega, by go_num, RN, Lib.hid (BO6.out.trans (hbz.out.mono BO6.out.size))⟩
        case measure => simp [intOf]; omega
      have E := Lib.hid (show clashB d r a b = true from clashB_yes (List.mem_of_getElem? HP.out) (List.mem_of_getElem? HQ.out) (by rw [HN.out]; exact hn0))
      have hne : (n != 0) = true := by simpa using hn0
      go_wp2
      go_ret
      exact ⟨ret_bool E.out.symm, B7.out⟩
end Go.Proofs.Ytpglaffmmddcdaa
