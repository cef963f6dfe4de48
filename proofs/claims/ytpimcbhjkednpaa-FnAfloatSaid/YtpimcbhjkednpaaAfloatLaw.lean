
/- FnAfloat holds for every code: a ship that starts at a sure minute is afloat on the lowest level all the way, and a sure start is a possible one. No condition. -/
import Derived.Test.YtpimcbhjkednpaaRows
import Derived.Test.YtpimcbhjkednpaaAf0
import Derived.Test.YtpimcbhjkednpaaAf3
import Derived.Test.YtpimcbhjkednpaaAf6
import Derived.Test.YtpimcbhjkednpaaAf7
import Derived.Test.YtpimcbhjkednpaaAf15
import Derived.Test.YtpimcbhjkednpaaAf16
import Derived.Test.YtpimcbhjkednpaaAf17
import Derived.Test.YtpimcbhjkednpaaAf18
import Derived.Test.YtpimcbhjkednpaaAf10
import Derived.Test.YtpimcbhjkednpaaAf13
import Derived.Deep.RegionHeld3
import Derived.Deep.DeepCutAuto
namespace Go.Proofs.Ytpimcbhjkednpaa.lawAfloat
open Go.ChangeShapes Go.WideShapes Go.ChangeAt Go.RowKit
set_option maxRecDepth 100000
theorem own : ownKnob Try.prog.godebug = none := by kernel_rfl
theorem laidOut : laidOutB Try.prog = true := by kernel_rfl
theorem good_ship {s : ShipD} (h : shipGood 0 s) : shipB s = true := by
  obtain ⟨h1, h2, h3, h4, h5, h6, h7, h8, h9⟩ := h
  exact shipB_of (b0 := true) (b1 := true) (b2 := true) (b3 := true) (b4 := true) (by rw [h1]; exact names_digit 0 (by omega)) (inB_mk (by omega) (by omega)) (inB_mk (by omega) (by omega)) (inB_mk (by omega) (by omega)) (inB_mk (by omega) (by omega))
theorem good_wf {s : ShipD} (h : shipGood 0 s) : s.wf := by
  obtain ⟨h1, h2, h3, h4, h5, h6, h7, h8, h9⟩ := h
  refine ⟨by rw [h1]; unfold maxLen; decide, ?_, ?_, ?_, ?_⟩ <;> (simp [Lit.wf, IntKind.min, IntKind.max, IntKind.signed, IntKind.bits]; omega)
theorem segs_pos (r : ChartRnd) : 3 ≤ r.chart.segs.length := by
  obtain ⟨b, m, e3, e4, x0, y0, x1, y1, x2, y2, x3, y3, x4⟩ := r
  cases e3 <;> cases e4 <;> simp [ChartRnd.chart]
set_option maxHeartbeats 16000000 in
theorem law (A : Option Addr) (n c : Nat) (w : World) (hcode : n ≤ maxLen ∧ (n ≤ 1048576 → CodeAt w A n)) :
    Calls Try.prog 3 #[.slice A n c] w fun e w' => e = .returned (.bool true) ∧ Below w.heap.size w w' := by
  obtain ⟨hn, hcode⟩ := hcode
  have HC := Lib.hid hcode
  clear hcode
  unfold maxLen at hn
  by_cases hbig : 1048576 < n
  · go_enter Try.func3, Try.ntmps3
    go_wp2
    go_ret
    exact ⟨rfl, Below.refl _ _⟩
  have HC0 := Lib.hid (HC.out (by omega))
  clear HC
  go_enter Try.func3, Try.ntmps3
  go_wp2_with fail
  refine (makeForecast_any A n c w HC0.out).mono ?_
  rintro e w1 ⟨m, FA0, fc0, fl, FA1, fc1, fs, rfl, hfc, hsl, hp, hs, hb1⟩
  obtain ⟨f, rfl, rfl, rfl⟩ : ∃ f : ForecastD, m = f.mean ∧ fl = f.parts ∧ fs = f.surges := ⟨⟨m, fl, fs⟩, rfl, rfl, rfl⟩
  have hal := Joins.below_alloc1 w1 (.cells #[.int .i64 f.mean, .slice FA0 f.parts.length fc0, .slice FA1 f.surges.length fc1] 28)
  have RF2 : Hid (RdForecast _ _ _ f) := Lib.hid (RdForecast.below ⟨hp, hs⟩ hal)
  have KF2 := Lib.hid (Blk.new w1 #[.int .i64 f.mean, .slice FA0 f.parts.length fc0, .slice FA1 f.surges.length fc1] 28)
  have B2 := Lib.hid (hb1.trans (hal.mono hb1.size))
  have HC2 := Lib.hid ((HC0.out.below hb1).below hal)
  have HFC := Lib.hid hfc
  clear hb1 hal hp hs hfc hsl HC0
  go_wp2_with fail
  refine (makeChart_any A n c 60 _ HC2.out (by omega)).mono ?_
  rintro e w3 ⟨r, A0, k0, A1, k1, hr, rfl, hv, hb3⟩
  have hch := chart_drawn r hr
  have hnm := names_drawn r
  have hsp := segs_pos r
  have hsl := (chart_len r).2
  obtain ⟨d, hd⟩ : ∃ d, r.chart = d := ⟨_, rfl⟩
  rw [hd] at hv hch hnm hsp hsl ⊢
  obtain ⟨n0, hn0⟩ : ∃ n0, d.points.length = n0 := ⟨_, rfl⟩
  obtain ⟨n1, hn1⟩ : ∃ n1, d.segs.length = n1 := ⟨_, rfl⟩
  have HN1 := Lib.hid hn1
  rw [hn0, hn1] at hv ⊢
  rw [hn1] at hsp hsl
  have HCH := Lib.hid hch
  have HNM := Lib.hid hnm
  have hal := Joins.below_alloc1 w3 (.cells #[.slice A0 n0 k0, .slice A1 n1 k1] 33)
  have RC4 := Lib.hid (hv.below hal)
  have KC4 := Lib.hid (Blk.new w3 #[.slice A0 n0 k0, .slice A1 n1 k1] 33)
  have hb4 := hb3.trans (hal.mono hb3.size)
  clear hal hv hb3 hr hd hn0 hn1 hch hnm
  have HC4 := Lib.hid (HC2.out.below hb4)
  have RF4 := Lib.hid (RF2.out.below hb4)
  have KF4 := Lib.hid (KF2.out.below hb4)
  have B4 := Lib.hid (B2.out.trans (hb4.mono B2.out.size))
  clear hb4 B2 HC2 RF2 KF2
  go_wp2_with fail
  refine (makeShip_any A n c 90 _ HC4.out (by omega)).mono ?_
  rintro e w5 ⟨s, rfl, hsg, hb5⟩
  have HSG := Lib.hid (good_ship hsg)
  have HSW := Lib.hid (good_wf hsg)
  have hal := Joins.below_alloc1 w5 (.cells #[.string s.name, .int .i64 s.length, .int .i64 s.draught, .int .i64 s.line, .int .i64 s.tugs, .bool s.slow] 36)
  have KS6 := Lib.hid (Blk.new w5 #[.string s.name, .int .i64 s.length, .int .i64 s.draught, .int .i64 s.line, .int .i64 s.tugs, .bool s.slow] 36)
  have hb6 := hb5.trans (hal.mono hb5.size)
  obtain ⟨w6, hw6⟩ : ∃ w6, w6 = (w5.alloc (.cells #[.string s.name, .int .i64 s.length, .int .i64 s.draught, .int .i64 s.line, .int .i64 s.tugs, .bool s.slow] 36)) := ⟨_, rfl⟩
  rw [← hw6] at hb6 KS6
  have HW6 := Lib.hid hw6
  clear hal hb5 hsg hw6
  have HC6 := Lib.hid (HC4.out.below hb6)
  have RF6 := Lib.hid (RF4.out.below hb6)
  have KF6 := Lib.hid (KF4.out.below hb6)
  have RC6 := Lib.hid (RC4.out.below hb6)
  have KC6 := Lib.hid (KC4.out.below hb6)
  have B6 := Lib.hid (B4.out.trans (hb6.mono B4.out.size))
  clear hb6 B4 HC4 RF4 KF4 RC4 KC4
  go_upto_region 6 with fail
  rw [← HW6.out]
  have hz : (n1 : Int) ≠ 0 := by omega
  have hzp : (0 : Int) < n1 := by omega
  have FKC0 := Lib.hid (show w6.cell? ⟨w3.heap.size, 0, none⟩ = some (.slice A0 n0 k0) from KC6.out.cell 0)
  have FKC1 := Lib.hid (show w6.cell? ⟨w3.heap.size, 1, none⟩ = some (.slice A1 n1 k1) from KC6.out.cell 1)
  have DD := Lib.hid ((Below.refl w6.heap.size w6).drew)
  have vFKC0 := FKC0.out
  have vFKC1 := FKC1.out
  refine wp_region_held_drew (S := (fun w' => w'.cell? ⟨w3.heap.size, 0, none⟩ = some (.slice A0 n0 k0) ∧ w'.cell? ⟨w3.heap.size, 1, none⟩ = some (.slice A1 n1 k1) ∧ Hid (Below w6.heap.size w6 w'))) (by kernel_rfl) ?_ (fun hHeld => ?_)
  · (try dsimp only); go_keep
  refine wpAnyH_take (i := 0) (v := ?_) (by simp only [List.getElem?_toArray, List.getElem?_cons_zero]; rfl) (by kernel_rfl) (by kernel_rfl) (by kernel_rfl) (by exact fun _ _ _ h => h) (Or.inl ⟨by rfl, ?_⟩) (by assumption) ?_; rotate_left; focus (intro w hSw; (try dsimp only at hSw); first | (go_simp; done) | (go_simp; with_reducible rfl))
  try simp only [Act.put, List.setIfInBounds_toArray, List.set_cons_zero, List.set_cons_succ]
  refine wpAnyH_take (i := 2) (v := ?_) (by simp only [List.getElem?_toArray, List.getElem?_cons_succ, List.getElem?_cons_zero]; rfl) (by kernel_rfl) (by kernel_rfl) (by kernel_rfl) (by exact fun _ _ _ h => h) (Or.inl ⟨by rfl, ?_⟩) (by assumption) ?_; rotate_left; focus (intro w hSw; (try dsimp only at hSw); first | (go_simp; done) | (go_simp; with_reducible rfl))
  try simp only [Act.put, List.setIfInBounds_toArray, List.set_cons_zero, List.set_cons_succ]
  refine wpAnyH_take (i := 3) (v := ?_) (by simp only [List.getElem?_toArray, List.getElem?_cons_succ, List.getElem?_cons_zero]; rfl) (by kernel_rfl) (by kernel_rfl) (by kernel_rfl) (by exact fun _ _ _ h => h) (Or.inl ⟨by rfl, ?_⟩) (by assumption) ?_; rotate_left; focus (intro w hSw; (try dsimp only at hSw); first | (go_simp; done) | (go_simp; with_reducible rfl))
  try simp only [Act.put, List.setIfInBounds_toArray, List.set_cons_zero, List.set_cons_succ]
  refine wpAnyH_take (i := 4) (v := ?_) (by simp only [List.getElem?_toArray, List.getElem?_cons_succ, List.getElem?_cons_zero]; rfl) (by kernel_rfl) (by kernel_rfl) (by kernel_rfl) (by exact fun _ _ _ h => h) (Or.inl ⟨by rfl, ?_⟩) (by assumption) ?_; rotate_left; focus (intro w hSw; (try dsimp only at hSw); first | (go_simp; done) | (go_simp; with_reducible rfl))
  try simp only [Act.put, List.setIfInBounds_toArray, List.set_cons_zero, List.set_cons_succ]
  refine wpAnyH_ready (rs := [1]) (by kernel_rfl) (by simp) ?_
  refine AllReadyH.cons rfl (fun K hK => ?_) AllReadyH.nil
  rw [if_pos (by rfl)]
  go_simp
  go_at_call 11
  have kB := hHeld.2.2
  refine (makeNum_any A n c 100 _ (HC6.out.below kB.out) (by omega)).mono ?_
  rintro e wq1 ⟨x, rfl, x0, x1, hbk⟩
  obtain ⟨k, hk⟩ : ∃ k : Nat, x.tmod (n1 : Int) = (k : Int) := ⟨(x.tmod (n1 : Int)).toNat, by rw [Int.tmod_eq_emod_of_nonneg x0]; have := Int.emod_nonneg x hz; omega⟩
  have klt : k < n1 := by rw [Int.tmod_eq_emod_of_nonneg x0] at hk; have := Int.emod_lt_of_pos x hzp; omega
  have hz0 : ¬ (n1 = 0) := by omega
  clear x0 x1
  have HBK := kB.out.trans (hbk.mono kB.out.size)
  have QS := Lib.hid (show wq1.cell? ⟨w3.heap.size, 0, none⟩ = some (.slice A0 n0 k0) ∧ wq1.cell? ⟨w3.heap.size, 1, none⟩ = some (.slice A1 n1 k1) ∧ Hid (Below w6.heap.size w6 wq1) from ⟨cell_onV FKC0.out HBK, cell_onV FKC1.out HBK, Lib.hid HBK⟩)
  clear hbk kB hHeld HBK
  go_simp
  refine hK.out _ _ ?_ (fun hHeld => ?_)
  · (try dsimp only); exact QS.out
  clear hK K
  try simp only [Act.put, List.setIfInBounds_toArray, List.set_cons_zero, List.set_cons_succ]
  refine wpAnyH_take (i := 5) (v := ?_) (by simp only [List.getElem?_toArray, List.getElem?_cons_succ, List.getElem?_cons_zero]; rfl) (by kernel_rfl) (by kernel_rfl) (by kernel_rfl) (by exact fun _ _ _ h => h) (Or.inl ⟨by rfl, ?_⟩) (by assumption) ?_; rotate_left; focus (intro w hSw; (try dsimp only at hSw); first | (go_simp; done) | (go_simp; with_reducible rfl))
  try simp only [Act.put, List.setIfInBounds_toArray, List.set_cons_zero, List.set_cons_succ]
  refine wpAnyH_take (i := 6) (v := ?_) (by simp only [List.getElem?_toArray, List.getElem?_cons_succ, List.getElem?_cons_zero]; rfl) (by kernel_rfl) (by kernel_rfl) (by kernel_rfl) (by exact fun _ _ _ h => h) (Or.inl ⟨by rfl, ?_⟩) (by assumption) ?_; rotate_left; focus (intro w hSw; (try dsimp only at hSw); first | (go_simp; done) | (go_simp; with_reducible rfl))
  try simp only [Act.put, List.setIfInBounds_toArray, List.set_cons_zero, List.set_cons_succ]
  refine wpAnyH_done (by kernel_rfl) ?_ _
  have hb7 := hHeld.2.2.out
  clear DD hHeld vFKC0 vFKC1
  have HC7 := Lib.hid (HC6.out.below hb7)
  have RF7 := Lib.hid (RF6.out.below hb7)
  have KF7 := Lib.hid (KF6.out.below hb7)
  have RC7 := Lib.hid (RC6.out.below hb7)
  have KC7 := Lib.hid (KC6.out.below hb7)
  have KS7 := Lib.hid (KS6.out.below hb7)
  have B7 := Lib.hid (B6.out.trans (hb7.mono B6.out.size))
  clear hb7 B6 HC6 RF6 KF6 RC6 KC6 KS6
  clear hk hz hzp hz0
  have vKC0 : wq1.cell? ⟨w3.heap.size, 0, none⟩ = some (.slice A0 n0 k0) := KC7.out.cell 0
  have vKC1 : wq1.cell? ⟨w3.heap.size, 1, none⟩ = some (.slice A1 n1 k1) := KC7.out.cell 1
  go_wp2_with fail
  clear vKC0 vKC1
  refine (makeNum_any A n c 102 _ HC7.out (by omega)).mono ?_
  rintro e w8 ⟨z, rfl, z0, z1, hb8⟩
  have HC8 := Lib.hid (HC7.out.below hb8)
  have RF8 := Lib.hid (RF7.out.below hb8)
  have KF8 := Lib.hid (KF7.out.below hb8)
  have RC8 := Lib.hid (RC7.out.below hb8)
  have KC8 := Lib.hid (KC7.out.below hb8)
  have KS8 := Lib.hid (KS7.out.below hb8)
  have B8 := Lib.hid (B7.out.trans (hb8.mono B7.out.size))
  clear hb8 B7 HC7 RF7 KF7 RC7 KC7 KS7
  obtain ⟨t, ht⟩ : ∃ t, z.tmod 2300 = t := ⟨_, rfl⟩
  have t0 : 0 ≤ t := by rw [Int.tmod_eq_emod_of_nonneg z0] at ht; omega
  have t1 : t < 2300 := by rw [Int.tmod_eq_emod_of_nonneg z0] at ht; omega
  clear z0 z1
  have hsail : sailB d (k : Int) s = true := by unfold sailB; rw [HCH.out, HSG.out, inB_mk (x := (k : Int)) (lo := 0) (hi := (d.segs.length : Int) - 1) (by omega) (by have := HN1.out; omega)]; rfl
  obtain ⟨q0, q1⟩ := minOn_bnd hsail
  obtain ⟨mn, hmn⟩ : ∃ mn : Nat, minOn d (k : Int) s = (mn : Int) := ⟨(minOn d (k : Int) s).toNat, by omega⟩
  rw [hmn] at q0 q1
  obtain ⟨-, -, g, hga, hg, -, -, hgs⟩ := sailB_true hsail
  rw [Int.toNat_natCast] at hg
  have HGA := Lib.hid hga
  have HGS := Lib.hid hgs
  clear hga hgs
  have HMN := Lib.hid hmn
  have HS := Lib.hid hsail
  have HG := Lib.hid hg
  clear hsail hmn hg
  have vKC0 : w8.cell? ⟨w3.heap.size, 0, none⟩ = some (.slice A0 n0 k0) := KC8.out.cell 0
  have vKC1 : w8.cell? ⟨w3.heap.size, 1, none⟩ = some (.slice A1 n1 k1) := KC8.out.cell 1
  have vKS0 : w8.cell? ⟨w5.heap.size, 0, none⟩ = some (.string s.name) := KS8.out.cell 0
  have vKS1 : w8.cell? ⟨w5.heap.size, 1, none⟩ = some (.int .i64 s.length) := KS8.out.cell 1
  have vKS2 : w8.cell? ⟨w5.heap.size, 2, none⟩ = some (.int .i64 s.draught) := KS8.out.cell 2
  have vKS3 : w8.cell? ⟨w5.heap.size, 3, none⟩ = some (.int .i64 s.line) := KS8.out.cell 3
  have vKS4 : w8.cell? ⟨w5.heap.size, 4, none⟩ = some (.int .i64 s.tugs) := KS8.out.cell 4
  have vKS5 : w8.cell? ⟨w5.heap.size, 5, none⟩ = some (.bool s.slow) := KS8.out.cell 5
  go_wp2_with fail
  clear vKC0 vKC1 vKS0 vKS1 vKS2 vKS3 vKS4 vKS5
  refine (implMinutesOn _ _ d (k : Int) s _ RC8.out HNM.out HSW.out).mono ?_
  rw [HMN.out]
  rintro e w9 ⟨rfl, hb9⟩
  have HC9 := Lib.hid (HC8.out.below hb9)
  have RF9 := Lib.hid (RF8.out.below hb9)
  have KF9 := Lib.hid (KF8.out.below hb9)
  have RC9 := Lib.hid (RC8.out.below hb9)
  have KC9 := Lib.hid (KC8.out.below hb9)
  have KS9 := Lib.hid (KS8.out.below hb9)
  have B9 := Lib.hid (B8.out.trans (hb9.mono B8.out.size))
  clear hb9 B8 HC8 RF8 KF8 RC8 KC8 KS8
  clear ht
  have hn1 : ¬ ((mn : Int) < 1) := by omega
  have hn1' : decide ((mn : Int) < 1) = false := decide_eq_false hn1
  obtain ⟨sq, hsq⟩ : ∃ sq, squatI s = sq := ⟨_, rfl⟩
  have HND := Lib.hid (needI_ok HSG.out)
  obtain ⟨sq0, sq1⟩ := squat_bnd HSG.out
  rw [hsq] at HND sq0 sq1
  have HSQ := Lib.hid hsq
  clear hsq
  obtain ⟨-, -, -, dr0, dr1, -⟩ := shipB_true HSG.out
  have ws1 : IntKind.i64.wrap (s.draught + sq) = s.draught + sq := by rw [IntKind.wrap_i64]; omega
  have ws2 : IntKind.i64.wrap (s.draught + sq + 50) = s.draught + sq + 50 := by rw [IntKind.wrap_i64]; omega
  have FKS0 := Lib.hid (show w9.cell? ⟨w5.heap.size, 0, none⟩ = some (.string s.name) from KS9.out.cell 0)
  have FKS1 := Lib.hid (show w9.cell? ⟨w5.heap.size, 1, none⟩ = some (.int .i64 s.length) from KS9.out.cell 1)
  have FKS2 := Lib.hid (show w9.cell? ⟨w5.heap.size, 2, none⟩ = some (.int .i64 s.draught) from KS9.out.cell 2)
  have FKS3 := Lib.hid (show w9.cell? ⟨w5.heap.size, 3, none⟩ = some (.int .i64 s.line) from KS9.out.cell 3)
  have FKS4 := Lib.hid (show w9.cell? ⟨w5.heap.size, 4, none⟩ = some (.int .i64 s.tugs) from KS9.out.cell 4)
  have FKS5 := Lib.hid (show w9.cell? ⟨w5.heap.size, 5, none⟩ = some (.bool s.slow) from KS9.out.cell 5)
  have DD := Lib.hid ((Below.refl w9.heap.size w9).drew)
  have vFKS0 := FKS0.out
  have vFKS1 := FKS1.out
  have vFKS2 := FKS2.out
  have vFKS3 := FKS3.out
  have vFKS4 := FKS4.out
  have vFKS5 := FKS5.out
  go_upto_region 9 with fail
  refine wp_region_held_drew (S := (fun w' => w'.cell? ⟨w5.heap.size, 0, none⟩ = some (.string s.name) ∧ w'.cell? ⟨w5.heap.size, 1, none⟩ = some (.int .i64 s.length) ∧ w'.cell? ⟨w5.heap.size, 2, none⟩ = some (.int .i64 s.draught) ∧ w'.cell? ⟨w5.heap.size, 3, none⟩ = some (.int .i64 s.line) ∧ w'.cell? ⟨w5.heap.size, 4, none⟩ = some (.int .i64 s.tugs) ∧ w'.cell? ⟨w5.heap.size, 5, none⟩ = some (.bool s.slow) ∧ Hid (Below w9.heap.size w9 w'))) (by kernel_rfl) ?_ (fun hHeld => ?_)
  · (try dsimp only); go_keep
  refine wpAnyH_take (i := 0) (v := ?_) (by simp only [List.getElem?_toArray, List.getElem?_cons_zero]; rfl) (by kernel_rfl) (by kernel_rfl) (by kernel_rfl) (by exact fun _ _ _ h => h) (Or.inl ⟨by rfl, ?_⟩) (by assumption) ?_; rotate_left; focus (intro w hSw; (try dsimp only at hSw); first | (go_simp; done) | (go_simp; with_reducible rfl))
  try simp only [Act.put, List.setIfInBounds_toArray, List.set_cons_zero, List.set_cons_succ]
  refine wpAnyH_take (i := 1) (v := ?_) (by simp only [List.getElem?_toArray, List.getElem?_cons_succ, List.getElem?_cons_zero]; rfl) (by kernel_rfl) (by kernel_rfl) (by kernel_rfl) (by exact fun _ _ _ h => h) (Or.inl ⟨by rfl, ?_⟩) (by assumption) ?_; rotate_left; focus (intro w hSw; (try dsimp only at hSw); first | (go_simp; done) | (go_simp; with_reducible rfl))
  try simp only [Act.put, List.setIfInBounds_toArray, List.set_cons_zero, List.set_cons_succ]
  refine wpAnyH_take (i := 2) (v := ?_) (by simp only [List.getElem?_toArray, List.getElem?_cons_succ, List.getElem?_cons_zero]; rfl) (by kernel_rfl) (by kernel_rfl) (by kernel_rfl) (by exact fun _ _ _ h => h) (Or.inl ⟨by rfl, ?_⟩) (by assumption) ?_; rotate_left; focus (intro w hSw; (try dsimp only at hSw); first | (go_simp; done) | (go_simp; with_reducible rfl))
  try simp only [Act.put, List.setIfInBounds_toArray, List.set_cons_zero, List.set_cons_succ]
  refine wpAnyH_take (i := 3) (v := ?_) (by simp only [List.getElem?_toArray, List.getElem?_cons_succ, List.getElem?_cons_zero]; rfl) (by kernel_rfl) (by kernel_rfl) (by kernel_rfl) (by exact fun _ _ _ h => h) (Or.inl ⟨by rfl, ?_⟩) (by assumption) ?_; rotate_left; focus (intro w hSw; (try dsimp only at hSw); first | (go_simp; done) | (go_simp; with_reducible rfl))
  try simp only [Act.put, List.setIfInBounds_toArray, List.set_cons_zero, List.set_cons_succ]
  refine wpAnyH_take (i := 5) (v := ?_) (by simp only [List.getElem?_toArray, List.getElem?_cons_succ, List.getElem?_cons_zero]; rfl) (by kernel_rfl) (by kernel_rfl) (by kernel_rfl) (by exact fun _ _ _ h => h) (Or.inl ⟨by rfl, ?_⟩) (by assumption) ?_; rotate_left; focus (intro w hSw; (try dsimp only at hSw); first | (go_simp; done) | (go_simp; with_reducible rfl))
  try simp only [Act.put, List.setIfInBounds_toArray, List.set_cons_zero, List.set_cons_succ]
  refine wpAnyH_take (i := 6) (v := ?_) (by simp only [List.getElem?_toArray, List.getElem?_cons_succ, List.getElem?_cons_zero]; rfl) (by kernel_rfl) (by kernel_rfl) (by kernel_rfl) (by exact fun _ _ _ h => h) (Or.inl ⟨by rfl, ?_⟩) (by assumption) ?_; rotate_left; focus (intro w hSw; (try dsimp only at hSw); first | (go_simp; done) | (go_simp; with_reducible rfl))
  try simp only [Act.put, List.setIfInBounds_toArray, List.set_cons_zero, List.set_cons_succ]
  refine wpAnyH_take (i := 7) (v := ?_) (by simp only [List.getElem?_toArray, List.getElem?_cons_succ, List.getElem?_cons_zero]; rfl) (by kernel_rfl) (by kernel_rfl) (by kernel_rfl) (by exact fun _ _ _ h => h) (Or.inl ⟨by rfl, ?_⟩) (by assumption) ?_; rotate_left; focus (intro w hSw; (try dsimp only at hSw); first | (go_simp; done) | (go_simp; with_reducible rfl))
  try simp only [Act.put, List.setIfInBounds_toArray, List.set_cons_zero, List.set_cons_succ]
  refine wpAnyH_ready (rs := [4]) (by kernel_rfl) (by simp) ?_
  refine AllReadyH.cons rfl (fun K hK => ?_) AllReadyH.nil
  rw [if_pos (by rfl)]
  go_simp
  go_at_call 13
  have kB := hHeld.2.2.2.2.2.2
  refine (implNeedOf s _ HSW.out).mono ?_
  rw [HND.out]
  rintro e wq4 ⟨rfl, hbk⟩
  have HBK := kB.out.trans (hbk.mono kB.out.size)
  have QS := Lib.hid (show wq4.cell? ⟨w5.heap.size, 0, none⟩ = some (.string s.name) ∧ wq4.cell? ⟨w5.heap.size, 1, none⟩ = some (.int .i64 s.length) ∧ wq4.cell? ⟨w5.heap.size, 2, none⟩ = some (.int .i64 s.draught) ∧ wq4.cell? ⟨w5.heap.size, 3, none⟩ = some (.int .i64 s.line) ∧ wq4.cell? ⟨w5.heap.size, 4, none⟩ = some (.int .i64 s.tugs) ∧ wq4.cell? ⟨w5.heap.size, 5, none⟩ = some (.bool s.slow) ∧ Hid (Below w9.heap.size w9 wq4) from ⟨cell_onV FKS0.out HBK, cell_onV FKS1.out HBK, cell_onV FKS2.out HBK, cell_onV FKS3.out HBK, cell_onV FKS4.out HBK, cell_onV FKS5.out HBK, Lib.hid HBK⟩)
  clear hbk kB hHeld HBK
  go_simp
  refine hK.out _ _ ?_ (fun hHeld => ?_)
  · (try dsimp only); exact QS.out
  clear hK K
  try simp only [Act.put, List.setIfInBounds_toArray, List.set_cons_zero, List.set_cons_succ]
  refine wpAnyH_ready (rs := [8]) (by kernel_rfl) (by simp) ?_
  refine AllReadyH.cons rfl (fun K hK => ?_) AllReadyH.nil
  rw [if_pos (by rfl)]
  go_simp
  go_at_call 14
  have kB := hHeld.2.2.2.2.2.2
  refine (implSquatOf s _ HSW.out).mono ?_
  rw [HSQ.out]
  rintro e wq8 ⟨rfl, hbk⟩
  have HBK := kB.out.trans (hbk.mono kB.out.size)
  have QS := Lib.hid (show wq8.cell? ⟨w5.heap.size, 0, none⟩ = some (.string s.name) ∧ wq8.cell? ⟨w5.heap.size, 1, none⟩ = some (.int .i64 s.length) ∧ wq8.cell? ⟨w5.heap.size, 2, none⟩ = some (.int .i64 s.draught) ∧ wq8.cell? ⟨w5.heap.size, 3, none⟩ = some (.int .i64 s.line) ∧ wq8.cell? ⟨w5.heap.size, 4, none⟩ = some (.int .i64 s.tugs) ∧ wq8.cell? ⟨w5.heap.size, 5, none⟩ = some (.bool s.slow) ∧ Hid (Below w9.heap.size w9 wq8) from ⟨cell_onV FKS0.out HBK, cell_onV FKS1.out HBK, cell_onV FKS2.out HBK, cell_onV FKS3.out HBK, cell_onV FKS4.out HBK, cell_onV FKS5.out HBK, Lib.hid HBK⟩)
  clear hbk kB hHeld HBK
  go_simp
  refine hK.out _ _ ?_ (fun hHeld => ?_)
  · (try dsimp only); exact QS.out
  clear hK K
  try simp only [Act.put, List.setIfInBounds_toArray, List.set_cons_zero, List.set_cons_succ]
  refine wpAnyH_take (i := 9) (v := ?_) (by simp only [List.getElem?_toArray, List.getElem?_cons_succ, List.getElem?_cons_zero]; rfl) (by kernel_rfl) (by kernel_rfl) (by kernel_rfl) (by exact fun _ _ _ h => h) (Or.inl ⟨by rfl, ?_⟩) (by assumption) ?_; rotate_left; focus (intro w hSw; (try dsimp only at hSw); first | (go_simp; done) | (go_simp; with_reducible rfl))
  try simp only [Act.put, List.setIfInBounds_toArray, List.set_cons_zero, List.set_cons_succ]
  refine wpAnyH_take (i := 10) (v := ?_) (by simp only [List.getElem?_toArray, List.getElem?_cons_succ, List.getElem?_cons_zero]; rfl) (by kernel_rfl) (by kernel_rfl) (by kernel_rfl) (by exact fun _ _ _ h => h) (Or.inl ⟨by rfl, ?_⟩) (by assumption) ?_; rotate_left; focus (intro w hSw; (try dsimp only at hSw); first | (go_simp; done) | (go_simp; with_reducible rfl))
  try simp only [Act.put, List.setIfInBounds_toArray, List.set_cons_zero, List.set_cons_succ]
  refine wpAnyH_take (i := 11) (v := ?_) (by simp only [List.getElem?_toArray, List.getElem?_cons_succ, List.getElem?_cons_zero]; rfl) (by kernel_rfl) (by kernel_rfl) (by kernel_rfl) (by exact fun _ _ _ h => h) (Or.inl ⟨by rfl, ?_⟩) (by assumption) ?_; rotate_left; focus (intro w hSw; (try dsimp only at hSw); first | (go_simp; done) | (go_simp; with_reducible rfl))
  try simp only [Act.put, List.setIfInBounds_toArray, List.set_cons_zero, List.set_cons_succ]
  refine wpAnyH_take (i := 12) (v := ?_) (by simp only [List.getElem?_toArray, List.getElem?_cons_succ, List.getElem?_cons_zero]; rfl) (by kernel_rfl) (by kernel_rfl) (by kernel_rfl) (by exact fun _ _ _ h => h) (Or.inl ⟨by rfl, ?_⟩) (by assumption) ?_; rotate_left; focus (intro w hSw; (try dsimp only at hSw); first | (go_simp; done) | (go_simp; with_reducible rfl))
  try simp only [Act.put, List.setIfInBounds_toArray, List.set_cons_zero, List.set_cons_succ]
  refine wpAnyH_done (by kernel_rfl) ?_ _
  have hb10 := hHeld.2.2.2.2.2.2.out
  clear DD hHeld vFKS0 vFKS1 vFKS2 vFKS3 vFKS4 vFKS5
  have HC10 := Lib.hid (HC9.out.below hb10)
  have RF10 := Lib.hid (RF9.out.below hb10)
  have KF10 := Lib.hid (KF9.out.below hb10)
  have RC10 := Lib.hid (RC9.out.below hb10)
  have KC10 := Lib.hid (KC9.out.below hb10)
  have KS10 := Lib.hid (KS9.out.below hb10)
  have B10 := Lib.hid (B9.out.trans (hb10.mono B9.out.size))
  clear hb10 B9 HC9 RF9 KF9 RC9 KC9 KS9
  have htm : IntKind.i64.wrap (t + (mn : Int)) = t + (mn : Int) := by rw [IntKind.wrap_i64]; omega
  clear hn1 hn1' ws1 ws2
  go_wp2
  go_loopw [9, 10] (fun q p wr => ∃ j : Nat, j ≤ mn + 1 ∧ p = .int .i64 (t + (j : Int)) ∧ q = .bool (allTo f d (k : Int) s t j) ∧ Hid (Below wq8.heap.size wq8 wr)) (fun _ p _ => (t + (mn : Int) + 1 - intOf p).toNat)
  case atStart => exact ⟨0, by omega, by simp, rfl, Lib.hid (Below.refl _ _)⟩
  case round =>
    obtain ⟨j, hj, rfl, rfl, hB⟩ := hrel
    have hbr := hB.out
    have HCr := Lib.hid (HC10.out.below hbr)
    have RFr := Lib.hid (RF10.out.below hbr)
    have KFr := Lib.hid (KF10.out.below hbr)
    have RCr := Lib.hid (RC10.out.below hbr)
    have KCr := Lib.hid (KC10.out.below hbr)
    have KSr := Lib.hid (KS10.out.below hbr)
    have Br := Lib.hid (B10.out.trans (hbr.mono B10.out.size))
    clear hbr
    by_cases hlt : j < mn + 1
    · have hle : t + (j : Int) ≤ t + (mn : Int) := by omega
      have wj : IntKind.i64.wrap (t + (j : Int) + 1) = t + ((j + 1 : Nat) : Int) := by rw [IntKind.wrap_i64]; omega
      obtain ⟨lo, hlo⟩ : ∃ lo, endI false f.mean f.parts f.surges (t + (j : Int)) = lo := ⟨_, rfl⟩
      obtain ⟨af, haf⟩ : ∃ af, afloatB d (k : Int) s lo = af := ⟨_, rfl⟩
      have ST : allTo f d (k : Int) s t (j + 1) = (allTo f d (k : Int) s t j && af) := by show (_ && afloatB d (k : Int) s _) = _; rw [hlo, haf]
      have HLO := Lib.hid hlo
      have HAF := Lib.hid haf
      obtain ⟨al, hal⟩ : ∃ al, allTo f d (k : Int) s t j = al := ⟨_, rfl⟩
      rw [hal] at ST ⊢
      have HST := Lib.hid ST
      clear hlo haf hal ST
      cases al with
      | false =>
        have DD := Lib.hid ((Below.refl wr.heap.size wr).drew)
        go_upto_region 15 with fail
        refine wp_region_held_drew (S := (fun w' => Hid (Below wr.heap.size wr w'))) (by kernel_rfl) ?_ (fun hHeld => ?_)
        · (try dsimp only); go_keep
        refine wpAnyH_take (i := 0) (v := ?_) (by simp only [List.getElem?_toArray, List.getElem?_cons_zero]; rfl) (by kernel_rfl) (by kernel_rfl) (by kernel_rfl) (by exact fun _ _ _ h => h) (Or.inl ⟨by rfl, ?_⟩) (by assumption) ?_; rotate_left; focus (intro w hSw; (try dsimp only at hSw); first | (go_simp; done) | (go_simp; with_reducible rfl))
        try simp only [Act.put, List.setIfInBounds_toArray, List.set_cons_zero, List.set_cons_succ]
        refine wpAnyH_take (i := 1) (v := ?_) (by simp only [List.getElem?_toArray, List.getElem?_cons_succ, List.getElem?_cons_zero]; rfl) (by kernel_rfl) (by kernel_rfl) (by kernel_rfl) (by exact fun _ _ _ h => h) (Or.inl ⟨by rfl, ?_⟩) (by assumption) ?_; rotate_left; focus (intro w hSw; (try dsimp only at hSw); first | (go_simp; done) | (go_simp; with_reducible rfl))
        try simp only [Act.put, List.setIfInBounds_toArray, List.set_cons_zero, List.set_cons_succ]
        refine wpAnyH_take (i := 2) (v := undef) (by simp only [List.getElem?_toArray, List.getElem?_cons_succ, List.getElem?_cons_zero]; rfl) (by kernel_rfl) (by kernel_rfl) (by kernel_rfl) (by exact fun _ _ _ h => h) (Or.inr ⟨by rfl, rfl⟩) (by assumption) ?_
        try simp only [Act.put, List.setIfInBounds_toArray, List.set_cons_zero, List.set_cons_succ]
        refine wpAnyH_take (i := 3) (v := undef) (by simp only [List.getElem?_toArray, List.getElem?_cons_succ, List.getElem?_cons_zero]; rfl) (by kernel_rfl) (by kernel_rfl) (by kernel_rfl) (by exact fun _ _ _ h => h) (Or.inr ⟨by rfl, rfl⟩) (by assumption) ?_
        try simp only [Act.put, List.setIfInBounds_toArray, List.set_cons_zero, List.set_cons_succ]
        refine wpAnyH_take (i := 4) (v := undef) (by simp only [List.getElem?_toArray, List.getElem?_cons_succ, List.getElem?_cons_zero]; rfl) (by kernel_rfl) (by kernel_rfl) (by kernel_rfl) (by exact fun _ _ _ h => h) (Or.inr ⟨by rfl, rfl⟩) (by assumption) ?_
        try simp only [Act.put, List.setIfInBounds_toArray, List.set_cons_zero, List.set_cons_succ]
        refine wpAnyH_take (i := 5) (v := undef) (by simp only [List.getElem?_toArray, List.getElem?_cons_succ, List.getElem?_cons_zero]; rfl) (by kernel_rfl) (by kernel_rfl) (by kernel_rfl) (by exact fun _ _ _ h => h) (Or.inr ⟨by rfl, rfl⟩) (by assumption) ?_
        try simp only [Act.put, List.setIfInBounds_toArray, List.set_cons_zero, List.set_cons_succ]
        refine wpAnyH_take (i := 6) (v := undef) (by simp only [List.getElem?_toArray, List.getElem?_cons_succ, List.getElem?_cons_zero]; rfl) (by kernel_rfl) (by kernel_rfl) (by kernel_rfl) (by exact fun _ _ _ h => h) (Or.inr ⟨by rfl, rfl⟩) (by assumption) ?_
        try simp only [Act.put, List.setIfInBounds_toArray, List.set_cons_zero, List.set_cons_succ]
        refine wpAnyH_take (i := 7) (v := undef) (by simp only [List.getElem?_toArray, List.getElem?_cons_succ, List.getElem?_cons_zero]; rfl) (by kernel_rfl) (by kernel_rfl) (by kernel_rfl) (by exact fun _ _ _ h => h) (Or.inr ⟨by rfl, rfl⟩) (by assumption) ?_
        try simp only [Act.put, List.setIfInBounds_toArray, List.set_cons_zero, List.set_cons_succ]
        refine wpAnyH_take (i := 8) (v := undef) (by simp only [List.getElem?_toArray, List.getElem?_cons_succ, List.getElem?_cons_zero]; rfl) (by kernel_rfl) (by kernel_rfl) (by kernel_rfl) (by exact fun _ _ _ h => h) (Or.inr ⟨by rfl, rfl⟩) (by assumption) ?_
        try simp only [Act.put, List.setIfInBounds_toArray, List.set_cons_zero, List.set_cons_succ]
        refine wpAnyH_take (i := 9) (v := ?_) (by simp only [List.getElem?_toArray, List.getElem?_cons_succ, List.getElem?_cons_zero]; rfl) (by kernel_rfl) (by kernel_rfl) (by kernel_rfl) (by exact fun _ _ _ h => h) (Or.inl ⟨by rfl, ?_⟩) (by assumption) ?_; rotate_left; focus (intro w hSw; (try dsimp only at hSw); first | (go_simp; done) | (go_simp; with_reducible rfl))
        try simp only [Act.put, List.setIfInBounds_toArray, List.set_cons_zero, List.set_cons_succ]
        refine wpAnyH_take (i := 10) (v := ?_) (by simp only [List.getElem?_toArray, List.getElem?_cons_succ, List.getElem?_cons_zero]; rfl) (by kernel_rfl) (by kernel_rfl) (by kernel_rfl) (by exact fun _ _ _ h => h) (Or.inl ⟨by rfl, ?_⟩) (by assumption) ?_; rotate_left; focus (intro w hSw; (try dsimp only at hSw); first | (go_simp; done) | (go_simp; with_reducible rfl))
        try simp only [Act.put, List.setIfInBounds_toArray, List.set_cons_zero, List.set_cons_succ]
        refine wpAnyH_done (by kernel_rfl) ?_ _
        have hbz := hB.out.trans (hHeld.out.mono hB.out.size)
        clear DD hHeld 
        go_wp2
        go_roundw
        case rel => exact ⟨j + 1, by omega, by first | rfl | exact congrArg (Value.int .i64) wj, by rw [HST.out]; rfl, Lib.hid hbz⟩
        case measure => simp [intOf]; omega
      | true =>
        have FKF0 := Lib.hid (show wr.cell? ⟨w1.heap.size, 0, none⟩ = some (.int .i64 f.mean) from KFr.out.cell 0)
        have FKF1 := Lib.hid (show wr.cell? ⟨w1.heap.size, 1, none⟩ = some (.slice FA0 f.parts.length fc0) from KFr.out.cell 1)
        have FKF2 := Lib.hid (show wr.cell? ⟨w1.heap.size, 2, none⟩ = some (.slice FA1 f.surges.length fc1) from KFr.out.cell 2)
        have FKC0 := Lib.hid (show wr.cell? ⟨w3.heap.size, 0, none⟩ = some (.slice A0 n0 k0) from KCr.out.cell 0)
        have FKC1 := Lib.hid (show wr.cell? ⟨w3.heap.size, 1, none⟩ = some (.slice A1 n1 k1) from KCr.out.cell 1)
        have FKS0 := Lib.hid (show wr.cell? ⟨w5.heap.size, 0, none⟩ = some (.string s.name) from KSr.out.cell 0)
        have FKS1 := Lib.hid (show wr.cell? ⟨w5.heap.size, 1, none⟩ = some (.int .i64 s.length) from KSr.out.cell 1)
        have FKS2 := Lib.hid (show wr.cell? ⟨w5.heap.size, 2, none⟩ = some (.int .i64 s.draught) from KSr.out.cell 2)
        have FKS3 := Lib.hid (show wr.cell? ⟨w5.heap.size, 3, none⟩ = some (.int .i64 s.line) from KSr.out.cell 3)
        have FKS4 := Lib.hid (show wr.cell? ⟨w5.heap.size, 4, none⟩ = some (.int .i64 s.tugs) from KSr.out.cell 4)
        have FKS5 := Lib.hid (show wr.cell? ⟨w5.heap.size, 5, none⟩ = some (.bool s.slow) from KSr.out.cell 5)
        have DD := Lib.hid ((Below.refl wr.heap.size wr).drew)
        have vFKF0 := FKF0.out
        have vFKF1 := FKF1.out
        have vFKF2 := FKF2.out
        have vFKC0 := FKC0.out
        have vFKC1 := FKC1.out
        have vFKS0 := FKS0.out
        have vFKS1 := FKS1.out
        have vFKS2 := FKS2.out
        have vFKS3 := FKS3.out
        have vFKS4 := FKS4.out
        have vFKS5 := FKS5.out
        go_upto_region 15 with fail
        refine wp_region_held_drew (S := (fun w' => w'.cell? ⟨w1.heap.size, 0, none⟩ = some (.int .i64 f.mean) ∧ w'.cell? ⟨w1.heap.size, 1, none⟩ = some (.slice FA0 f.parts.length fc0) ∧ w'.cell? ⟨w1.heap.size, 2, none⟩ = some (.slice FA1 f.surges.length fc1) ∧ w'.cell? ⟨w3.heap.size, 0, none⟩ = some (.slice A0 n0 k0) ∧ w'.cell? ⟨w3.heap.size, 1, none⟩ = some (.slice A1 n1 k1) ∧ w'.cell? ⟨w5.heap.size, 0, none⟩ = some (.string s.name) ∧ w'.cell? ⟨w5.heap.size, 1, none⟩ = some (.int .i64 s.length) ∧ w'.cell? ⟨w5.heap.size, 2, none⟩ = some (.int .i64 s.draught) ∧ w'.cell? ⟨w5.heap.size, 3, none⟩ = some (.int .i64 s.line) ∧ w'.cell? ⟨w5.heap.size, 4, none⟩ = some (.int .i64 s.tugs) ∧ w'.cell? ⟨w5.heap.size, 5, none⟩ = some (.bool s.slow) ∧ Hid (Below wr.heap.size wr w'))) (by kernel_rfl) ?_ (fun hHeld => ?_)
        · (try dsimp only); go_keep
        refine wpAnyH_take (i := 0) (v := ?_) (by simp only [List.getElem?_toArray, List.getElem?_cons_zero]; rfl) (by kernel_rfl) (by kernel_rfl) (by kernel_rfl) (by exact fun _ _ _ h => h) (Or.inl ⟨by rfl, ?_⟩) (by assumption) ?_; rotate_left; focus (intro w hSw; (try dsimp only at hSw); first | (go_simp; done) | (go_simp; with_reducible rfl))
        try simp only [Act.put, List.setIfInBounds_toArray, List.set_cons_zero, List.set_cons_succ]
        refine wpAnyH_take (i := 1) (v := ?_) (by simp only [List.getElem?_toArray, List.getElem?_cons_succ, List.getElem?_cons_zero]; rfl) (by kernel_rfl) (by kernel_rfl) (by kernel_rfl) (by exact fun _ _ _ h => h) (Or.inl ⟨by rfl, ?_⟩) (by assumption) ?_; rotate_left; focus (intro w hSw; (try dsimp only at hSw); first | (go_simp; done) | (go_simp; with_reducible rfl))
        try simp only [Act.put, List.setIfInBounds_toArray, List.set_cons_zero, List.set_cons_succ]
        refine wpAnyH_take (i := 2) (v := ?_) (by simp only [List.getElem?_toArray, List.getElem?_cons_succ, List.getElem?_cons_zero]; rfl) (by kernel_rfl) (by kernel_rfl) (by kernel_rfl) (by exact fun _ _ _ h => h) (Or.inl ⟨by rfl, ?_⟩) (by assumption) ?_; rotate_left; focus (intro w hSw; (try dsimp only at hSw); first | (go_simp; done) | (go_simp; with_reducible rfl))
        try simp only [Act.put, List.setIfInBounds_toArray, List.set_cons_zero, List.set_cons_succ]
        refine wpAnyH_take (i := 3) (v := ?_) (by simp only [List.getElem?_toArray, List.getElem?_cons_succ, List.getElem?_cons_zero]; rfl) (by kernel_rfl) (by kernel_rfl) (by kernel_rfl) (by exact fun _ _ _ h => h) (Or.inl ⟨by rfl, ?_⟩) (by assumption) ?_; rotate_left; focus (intro w hSw; (try dsimp only at hSw); first | (go_simp; done) | (go_simp; with_reducible rfl))
        try simp only [Act.put, List.setIfInBounds_toArray, List.set_cons_zero, List.set_cons_succ]
        refine wpAnyH_take (i := 4) (v := ?_) (by simp only [List.getElem?_toArray, List.getElem?_cons_succ, List.getElem?_cons_zero]; rfl) (by kernel_rfl) (by kernel_rfl) (by kernel_rfl) (by exact fun _ _ _ h => h) (Or.inl ⟨by rfl, ?_⟩) (by assumption) ?_; rotate_left; focus (intro w hSw; (try dsimp only at hSw); first | (go_simp; done) | (go_simp; with_reducible rfl))
        try simp only [Act.put, List.setIfInBounds_toArray, List.set_cons_zero, List.set_cons_succ]
        refine wpAnyH_take (i := 5) (v := ?_) (by simp only [List.getElem?_toArray, List.getElem?_cons_succ, List.getElem?_cons_zero]; rfl) (by kernel_rfl) (by kernel_rfl) (by kernel_rfl) (by exact fun _ _ _ h => h) (Or.inl ⟨by rfl, ?_⟩) (by assumption) ?_; rotate_left; focus (intro w hSw; (try dsimp only at hSw); first | (go_simp; done) | (go_simp; with_reducible rfl))
        try simp only [Act.put, List.setIfInBounds_toArray, List.set_cons_zero, List.set_cons_succ]
        refine wpAnyH_take (i := 6) (v := ?_) (by simp only [List.getElem?_toArray, List.getElem?_cons_succ, List.getElem?_cons_zero]; rfl) (by kernel_rfl) (by kernel_rfl) (by kernel_rfl) (by exact fun _ _ _ h => h) (Or.inl ⟨by rfl, ?_⟩) (by assumption) ?_; rotate_left; focus (intro w hSw; (try dsimp only at hSw); first | (go_simp; done) | (go_simp; with_reducible rfl))
        try simp only [Act.put, List.setIfInBounds_toArray, List.set_cons_zero, List.set_cons_succ]
        refine wpAnyH_ready (rs := [7]) (by kernel_rfl) (by simp) ?_
        refine AllReadyH.cons rfl (fun K hK => ?_) AllReadyH.nil
        rw [if_pos (by rfl)]
        go_simp
        go_at_call 16
        have kB := hHeld.2.2.2.2.2.2.2.2.2.2.2
        refine (implLowAt f.mean _ _ f.parts f.surges (t + (j : Int)) _ (RFr.out.below kB.out).1 (RFr.out.below kB.out).2).mono ?_
        rw [HLO.out]
        rintro e wq7 ⟨rfl, hbk⟩
        have HBK := kB.out.trans (hbk.mono kB.out.size)
        have QS := Lib.hid (show wq7.cell? ⟨w1.heap.size, 0, none⟩ = some (.int .i64 f.mean) ∧ wq7.cell? ⟨w1.heap.size, 1, none⟩ = some (.slice FA0 f.parts.length fc0) ∧ wq7.cell? ⟨w1.heap.size, 2, none⟩ = some (.slice FA1 f.surges.length fc1) ∧ wq7.cell? ⟨w3.heap.size, 0, none⟩ = some (.slice A0 n0 k0) ∧ wq7.cell? ⟨w3.heap.size, 1, none⟩ = some (.slice A1 n1 k1) ∧ wq7.cell? ⟨w5.heap.size, 0, none⟩ = some (.string s.name) ∧ wq7.cell? ⟨w5.heap.size, 1, none⟩ = some (.int .i64 s.length) ∧ wq7.cell? ⟨w5.heap.size, 2, none⟩ = some (.int .i64 s.draught) ∧ wq7.cell? ⟨w5.heap.size, 3, none⟩ = some (.int .i64 s.line) ∧ wq7.cell? ⟨w5.heap.size, 4, none⟩ = some (.int .i64 s.tugs) ∧ wq7.cell? ⟨w5.heap.size, 5, none⟩ = some (.bool s.slow) ∧ Hid (Below wr.heap.size wr wq7) from ⟨cell_onV FKF0.out HBK, cell_onV FKF1.out HBK, cell_onV FKF2.out HBK, cell_onV FKC0.out HBK, cell_onV FKC1.out HBK, cell_onV FKS0.out HBK, cell_onV FKS1.out HBK, cell_onV FKS2.out HBK, cell_onV FKS3.out HBK, cell_onV FKS4.out HBK, cell_onV FKS5.out HBK, Lib.hid HBK⟩)
        clear hbk kB hHeld HBK
        go_simp
        refine hK.out _ _ ?_ (fun hHeld => ?_)
        · (try dsimp only); exact QS.out
        clear hK K
        try simp only [Act.put, List.setIfInBounds_toArray, List.set_cons_zero, List.set_cons_succ]
        refine wpAnyH_ready (rs := [8]) (by kernel_rfl) (by simp) ?_
        refine AllReadyH.cons rfl (fun K hK => ?_) AllReadyH.nil
        rw [if_pos (by rfl)]
        go_simp
        go_at_call 15
        have kB := hHeld.2.2.2.2.2.2.2.2.2.2.2
        refine (implIsAfloat _ _ d (k : Int) s lo _ (RCr.out.below kB.out) HNM.out HSW.out).mono ?_
        rw [HAF.out]
        rintro e wq8 ⟨rfl, hbk⟩
        have HBK := kB.out.trans (hbk.mono kB.out.size)
        have QS := Lib.hid (show wq8.cell? ⟨w1.heap.size, 0, none⟩ = some (.int .i64 f.mean) ∧ wq8.cell? ⟨w1.heap.size, 1, none⟩ = some (.slice FA0 f.parts.length fc0) ∧ wq8.cell? ⟨w1.heap.size, 2, none⟩ = some (.slice FA1 f.surges.length fc1) ∧ wq8.cell? ⟨w3.heap.size, 0, none⟩ = some (.slice A0 n0 k0) ∧ wq8.cell? ⟨w3.heap.size, 1, none⟩ = some (.slice A1 n1 k1) ∧ wq8.cell? ⟨w5.heap.size, 0, none⟩ = some (.string s.name) ∧ wq8.cell? ⟨w5.heap.size, 1, none⟩ = some (.int .i64 s.length) ∧ wq8.cell? ⟨w5.heap.size, 2, none⟩ = some (.int .i64 s.draught) ∧ wq8.cell? ⟨w5.heap.size, 3, none⟩ = some (.int .i64 s.line) ∧ wq8.cell? ⟨w5.heap.size, 4, none⟩ = some (.int .i64 s.tugs) ∧ wq8.cell? ⟨w5.heap.size, 5, none⟩ = some (.bool s.slow) ∧ Hid (Below wr.heap.size wr wq8) from ⟨cell_onV FKF0.out HBK, cell_onV FKF1.out HBK, cell_onV FKF2.out HBK, cell_onV FKC0.out HBK, cell_onV FKC1.out HBK, cell_onV FKS0.out HBK, cell_onV FKS1.out HBK, cell_onV FKS2.out HBK, cell_onV FKS3.out HBK, cell_onV FKS4.out HBK, cell_onV FKS5.out HBK, Lib.hid HBK⟩)
        clear hbk kB hHeld HBK
        go_simp
        refine hK.out _ _ ?_ (fun hHeld => ?_)
        · (try dsimp only); exact QS.out
        clear hK K
        try simp only [Act.put, List.setIfInBounds_toArray, List.set_cons_zero, List.set_cons_succ]
        refine wpAnyH_take (i := 9) (v := ?_) (by simp only [List.getElem?_toArray, List.getElem?_cons_succ, List.getElem?_cons_zero]; rfl) (by kernel_rfl) (by kernel_rfl) (by kernel_rfl) (by exact fun _ _ _ h => h) (Or.inl ⟨by rfl, ?_⟩) (by assumption) ?_; rotate_left; focus (intro w hSw; (try dsimp only at hSw); first | (go_simp; done) | (go_simp; with_reducible rfl))
        try simp only [Act.put, List.setIfInBounds_toArray, List.set_cons_zero, List.set_cons_succ]
        refine wpAnyH_take (i := 10) (v := ?_) (by simp only [List.getElem?_toArray, List.getElem?_cons_succ, List.getElem?_cons_zero]; rfl) (by kernel_rfl) (by kernel_rfl) (by kernel_rfl) (by exact fun _ _ _ h => h) (Or.inl ⟨by rfl, ?_⟩) (by assumption) ?_; rotate_left; focus (intro w hSw; (try dsimp only at hSw); first | (go_simp; done) | (go_simp; with_reducible rfl))
        try simp only [Act.put, List.setIfInBounds_toArray, List.set_cons_zero, List.set_cons_succ]
        refine wpAnyH_done (by kernel_rfl) ?_ _
        have hbz := hB.out.trans (hHeld.2.2.2.2.2.2.2.2.2.2.2.out.mono hB.out.size)
        clear DD hHeld vFKF0 vFKF1 vFKF2 vFKC0 vFKC1 vFKS0 vFKS1 vFKS2 vFKS3 vFKS4 vFKS5
        go_wp2
        go_roundw
        case rel => exact ⟨j + 1, by omega, by first | rfl | exact congrArg (Value.int .i64) wj, by rw [HST.out]; rfl, Lib.hid hbz⟩
        case measure => simp [intOf]; omega
    obtain rfl : j = mn + 1 := by omega
    have hgt : ¬ (t + ((mn + 1 : Nat) : Int) ≤ t + (mn : Int)) := by omega
    have htl : t + minOn d (k : Int) s ≤ 2880 := by rw [HMN.out]; omega
    rw [all_sure HFC.out HS.out t0 htl HMN.out]
    have hsd := sure_draught (t := t) HFC.out HS.out
    have hso := sure_open (f := f) (d := d) (i := (k : Int)) (s := s) (t := t)
    obtain ⟨su, hsu⟩ : ∃ su, startB false f d (k : Int) s t = su := ⟨_, rfl⟩
    obtain ⟨dr, hdr⟩ : ∃ dr, draughtI f d (k : Int) s t = dr := ⟨_, rfl⟩
    rw [hsu, hdr] at hsd
    rw [hsu] at hso ⊢
    have HSU := Lib.hid hsu
    have HDR := Lib.hid hdr
    have HSD := Lib.hid hsd
    have HSO := Lib.hid hso
    clear hsu hdr hsd hso htl
    have vKF0 : wr.cell? ⟨w1.heap.size, 0, none⟩ = some (.int .i64 f.mean) := KFr.out.cell 0
    have vKF1 : wr.cell? ⟨w1.heap.size, 1, none⟩ = some (.slice FA0 f.parts.length fc0) := KFr.out.cell 1
    have vKF2 : wr.cell? ⟨w1.heap.size, 2, none⟩ = some (.slice FA1 f.surges.length fc1) := KFr.out.cell 2
    have vKC0 : wr.cell? ⟨w3.heap.size, 0, none⟩ = some (.slice A0 n0 k0) := KCr.out.cell 0
    have vKC1 : wr.cell? ⟨w3.heap.size, 1, none⟩ = some (.slice A1 n1 k1) := KCr.out.cell 1
    have vKS0 : wr.cell? ⟨w5.heap.size, 0, none⟩ = some (.string s.name) := KSr.out.cell 0
    have vKS1 : wr.cell? ⟨w5.heap.size, 1, none⟩ = some (.int .i64 s.length) := KSr.out.cell 1
    have vKS2 : wr.cell? ⟨w5.heap.size, 2, none⟩ = some (.int .i64 s.draught) := KSr.out.cell 2
    have vKS3 : wr.cell? ⟨w5.heap.size, 3, none⟩ = some (.int .i64 s.line) := KSr.out.cell 3
    have vKS4 : wr.cell? ⟨w5.heap.size, 4, none⟩ = some (.int .i64 s.tugs) := KSr.out.cell 4
    have vKS5 : wr.cell? ⟨w5.heap.size, 5, none⟩ = some (.bool s.slow) := KSr.out.cell 5
    go_wp2_with fail
    clear vKF0 vKF1 vKF2 vKC0 vKC1 vKS0 vKS1 vKS2 vKS3 vKS4 vKS5
    refine (implDraughtFor _ _ f _ _ d (k : Int) s t _ RFr.out RCr.out HNM.out HSW.out).mono ?_
    rw [HDR.out]
    rintro e w11 ⟨rfl, hb11⟩
    have HC11 := Lib.hid (HCr.out.below hb11)
    have RF11 := Lib.hid (RFr.out.below hb11)
    have KF11 := Lib.hid (KFr.out.below hb11)
    have RC11 := Lib.hid (RCr.out.below hb11)
    have KC11 := Lib.hid (KCr.out.below hb11)
    have KS11 := Lib.hid (KSr.out.below hb11)
    have B11 := Lib.hid (Br.out.trans (hb11.mono Br.out.size))
    clear hb11 Br HCr RFr KFr RCr KCr KSr
    have vKF0 : w11.cell? ⟨w1.heap.size, 0, none⟩ = some (.int .i64 f.mean) := KF11.out.cell 0
    have vKF1 : w11.cell? ⟨w1.heap.size, 1, none⟩ = some (.slice FA0 f.parts.length fc0) := KF11.out.cell 1
    have vKF2 : w11.cell? ⟨w1.heap.size, 2, none⟩ = some (.slice FA1 f.surges.length fc1) := KF11.out.cell 2
    have vKC0 : w11.cell? ⟨w3.heap.size, 0, none⟩ = some (.slice A0 n0 k0) := KC11.out.cell 0
    have vKC1 : w11.cell? ⟨w3.heap.size, 1, none⟩ = some (.slice A1 n1 k1) := KC11.out.cell 1
    have vKS0 : w11.cell? ⟨w5.heap.size, 0, none⟩ = some (.string s.name) := KS11.out.cell 0
    have vKS1 : w11.cell? ⟨w5.heap.size, 1, none⟩ = some (.int .i64 s.length) := KS11.out.cell 1
    have vKS2 : w11.cell? ⟨w5.heap.size, 2, none⟩ = some (.int .i64 s.draught) := KS11.out.cell 2
    have vKS3 : w11.cell? ⟨w5.heap.size, 3, none⟩ = some (.int .i64 s.line) := KS11.out.cell 3
    have vKS4 : w11.cell? ⟨w5.heap.size, 4, none⟩ = some (.int .i64 s.tugs) := KS11.out.cell 4
    have vKS5 : w11.cell? ⟨w5.heap.size, 5, none⟩ = some (.bool s.slow) := KS11.out.cell 5
    go_wp2_with fail
    clear vKF0 vKF1 vKF2 vKC0 vKC1 vKS0 vKS1 vKS2 vKS3 vKS4 vKS5
    refine (implIsSure _ _ f _ _ d (k : Int) s t _ RF11.out RC11.out HNM.out HSW.out).mono ?_
    rw [HSU.out]
    rintro e w12 ⟨rfl, hb12⟩
    have HC12 := Lib.hid (HC11.out.below hb12)
    have RF12 := Lib.hid (RF11.out.below hb12)
    have KF12 := Lib.hid (KF11.out.below hb12)
    have RC12 := Lib.hid (RC11.out.below hb12)
    have KC12 := Lib.hid (KC11.out.below hb12)
    have KS12 := Lib.hid (KS11.out.below hb12)
    have B12 := Lib.hid (B11.out.trans (hb12.mono B11.out.size))
    clear hb12 B11 HC11 RF11 KF11 RC11 KC11 KS11
    obtain ⟨nd, hnd⟩ : ∃ nd, s.draught + sq + 50 = nd := ⟨_, rfl⟩
    have HN2 := Lib.hid (HND.out.trans hnd)
    have nd0 : 150 ≤ nd := by omega
    have nd1 : nd ≤ 2150 := by omega
    clear hnd
    obtain ⟨-, -, -, -, -, gd0, gd1, -⟩ := segB_true HGS.out
    have wdp : IntKind.i64.wrap (nd - g.depth) = nd - g.depth := by rw [IntKind.wrap_i64]; omega
    have HLV : Hid (levForI d (k : Int) s = nd - g.depth) := Lib.hid (by rw [levForI_ok HS.out HGA.out, HN2.out])
    obtain ⟨L1, hL1⟩ : ∃ L, startsL false f d (k : Int) s = L := ⟨_, rfl⟩
    obtain ⟨L2, hL2⟩ : ∃ L, startsL true f d (k : Int) s = L := ⟨_, rfl⟩
    have l1 := starts_len false f d (k : Int) s
    have l2 := starts_len true f d (k : Int) s
    have hcc := count_starts f d (k : Int) s
    rw [hL1] at l1 hcc
    rw [hL2] at l2 hcc
    have HL1 := Lib.hid hL1
    have HL2 := Lib.hid hL2
    have HE1 := Lib.hid l1
    have HE2 := Lib.hid l2
    obtain ⟨c1, hc1⟩ : ∃ c1, countI L1 = c1 := ⟨_, rfl⟩
    obtain ⟨c2, hc2⟩ : ∃ c2, countI L2 = c2 := ⟨_, rfl⟩
    rw [hc1, hc2] at hcc
    have HC1 := Lib.hid hc1
    have HC2 := Lib.hid hc2
    clear hL1 hL2 l1 l2 hc1 hc2
    obtain ⟨g', o', eA, FD0⟩ : ∃ g' o', A1 = some ⟨g', o', none⟩ ∧ w12.cell? ⟨g', o' + k * 5 + 2, none⟩ = some (.int .i64 g.depth) := by
      rcases RC12.out.2.2 with ⟨he, _⟩ | ⟨g', o', c', e, _, _, hc⟩
      · have := HG.out; rw [he] at this; simp at this
      · injection e with hA _ _
        exact ⟨g', o', hA, (SlSegment.cells hc k g HG.out).2.2.1⟩
    subst eA
    have FD := Lib.hid FD0
    clear FD0
    cases su with
    | false =>
      have hdd : ¬ (s.draught ≤ dr) := by have := HSD.out; simpa using this
      have hdd' : decide (s.draught ≤ dr) = false := by simpa using hdd
      have FKF0 := Lib.hid (show w12.cell? ⟨w1.heap.size, 0, none⟩ = some (.int .i64 f.mean) from KF12.out.cell 0)
      have FKF1 := Lib.hid (show w12.cell? ⟨w1.heap.size, 1, none⟩ = some (.slice FA0 f.parts.length fc0) from KF12.out.cell 1)
      have FKF2 := Lib.hid (show w12.cell? ⟨w1.heap.size, 2, none⟩ = some (.slice FA1 f.surges.length fc1) from KF12.out.cell 2)
      have FKC0 := Lib.hid (show w12.cell? ⟨w3.heap.size, 0, none⟩ = some (.slice A0 n0 k0) from KC12.out.cell 0)
      have FKC1 := Lib.hid (show w12.cell? ⟨w3.heap.size, 1, none⟩ = some (.slice (some ⟨g', o', none⟩) n1 k1) from KC12.out.cell 1)
      have FKS0 := Lib.hid (show w12.cell? ⟨w5.heap.size, 0, none⟩ = some (.string s.name) from KS12.out.cell 0)
      have FKS1 := Lib.hid (show w12.cell? ⟨w5.heap.size, 1, none⟩ = some (.int .i64 s.length) from KS12.out.cell 1)
      have FKS2 := Lib.hid (show w12.cell? ⟨w5.heap.size, 2, none⟩ = some (.int .i64 s.draught) from KS12.out.cell 2)
      have FKS3 := Lib.hid (show w12.cell? ⟨w5.heap.size, 3, none⟩ = some (.int .i64 s.line) from KS12.out.cell 3)
      have FKS4 := Lib.hid (show w12.cell? ⟨w5.heap.size, 4, none⟩ = some (.int .i64 s.tugs) from KS12.out.cell 4)
      have FKS5 := Lib.hid (show w12.cell? ⟨w5.heap.size, 5, none⟩ = some (.bool s.slow) from KS12.out.cell 5)
      have DD := Lib.hid ((Below.refl w12.heap.size w12).drew)
      have vFKF0 := FKF0.out
      have vFKF1 := FKF1.out
      have vFKF2 := FKF2.out
      have vFKC0 := FKC0.out
      have vFKC1 := FKC1.out
      have vFKS0 := FKS0.out
      have vFKS1 := FKS1.out
      have vFKS2 := FKS2.out
      have vFKS3 := FKS3.out
      have vFKS4 := FKS4.out
      have vFKS5 := FKS5.out
      have vFD := FD.out
      go_upto_region 18 with fail
      refine wp_region_held_drew (S := (fun w' => w'.cell? ⟨w1.heap.size, 0, none⟩ = some (.int .i64 f.mean) ∧ w'.cell? ⟨w1.heap.size, 1, none⟩ = some (.slice FA0 f.parts.length fc0) ∧ w'.cell? ⟨w1.heap.size, 2, none⟩ = some (.slice FA1 f.surges.length fc1) ∧ w'.cell? ⟨w3.heap.size, 0, none⟩ = some (.slice A0 n0 k0) ∧ w'.cell? ⟨w3.heap.size, 1, none⟩ = some (.slice (some ⟨g', o', none⟩) n1 k1) ∧ w'.cell? ⟨w5.heap.size, 0, none⟩ = some (.string s.name) ∧ w'.cell? ⟨w5.heap.size, 1, none⟩ = some (.int .i64 s.length) ∧ w'.cell? ⟨w5.heap.size, 2, none⟩ = some (.int .i64 s.draught) ∧ w'.cell? ⟨w5.heap.size, 3, none⟩ = some (.int .i64 s.line) ∧ w'.cell? ⟨w5.heap.size, 4, none⟩ = some (.int .i64 s.tugs) ∧ w'.cell? ⟨w5.heap.size, 5, none⟩ = some (.bool s.slow) ∧ w'.cell? ⟨g', o' + k * 5 + 2, none⟩ = some (.int .i64 g.depth) ∧ Hid (Below w12.heap.size w12 w'))) (by kernel_rfl) ?_ (fun hHeld => ?_)
      · (try dsimp only); go_keep
      refine wpAnyH_take (i := 0) (v := ?_) (by simp only [List.getElem?_toArray, List.getElem?_cons_zero]; rfl) (by kernel_rfl) (by kernel_rfl) (by kernel_rfl) (by exact fun _ _ _ h => h) (Or.inl ⟨by rfl, ?_⟩) (by assumption) ?_; rotate_left; focus (intro w hSw; (try dsimp only at hSw); first | (go_simp; done) | (go_simp; with_reducible rfl))
      try simp only [Act.put, List.setIfInBounds_toArray, List.set_cons_zero, List.set_cons_succ]
      refine wpAnyH_take (i := 1) (v := ?_) (by simp only [List.getElem?_toArray, List.getElem?_cons_succ, List.getElem?_cons_zero]; rfl) (by kernel_rfl) (by kernel_rfl) (by kernel_rfl) (by exact fun _ _ _ h => h) (Or.inl ⟨by rfl, ?_⟩) (by assumption) ?_; rotate_left; focus (intro w hSw; (try dsimp only at hSw); first | (go_simp; done) | (go_simp; with_reducible rfl))
      try simp only [Act.put, List.setIfInBounds_toArray, List.set_cons_zero, List.set_cons_succ]
      refine wpAnyH_take (i := 2) (v := ?_) (by simp only [List.getElem?_toArray, List.getElem?_cons_succ, List.getElem?_cons_zero]; rfl) (by kernel_rfl) (by kernel_rfl) (by kernel_rfl) (by exact fun _ _ _ h => h) (Or.inl ⟨by rfl, ?_⟩) (by assumption) ?_; rotate_left; focus (intro w hSw; (try dsimp only at hSw); first | (go_simp; done) | (go_simp; with_reducible rfl))
      try simp only [Act.put, List.setIfInBounds_toArray, List.set_cons_zero, List.set_cons_succ]
      refine wpAnyH_take (i := 3) (v := ?_) (by simp only [List.getElem?_toArray, List.getElem?_cons_succ, List.getElem?_cons_zero]; rfl) (by kernel_rfl) (by kernel_rfl) (by kernel_rfl) (by exact fun _ _ _ h => h) (Or.inl ⟨by rfl, ?_⟩) (by assumption) ?_; rotate_left; focus (intro w hSw; (try dsimp only at hSw); first | (go_simp; done) | (go_simp; with_reducible rfl))
      try simp only [Act.put, List.setIfInBounds_toArray, List.set_cons_zero, List.set_cons_succ]
      refine wpAnyH_take (i := 4) (v := ?_) (by simp only [List.getElem?_toArray, List.getElem?_cons_succ, List.getElem?_cons_zero]; rfl) (by kernel_rfl) (by kernel_rfl) (by kernel_rfl) (by exact fun _ _ _ h => h) (Or.inl ⟨by rfl, ?_⟩) (by assumption) ?_; rotate_left; focus (intro w hSw; (try dsimp only at hSw); first | (go_simp; done) | (go_simp; with_reducible rfl))
      try simp only [Act.put, List.setIfInBounds_toArray, List.set_cons_zero, List.set_cons_succ]
      refine wpAnyH_take (i := 5) (v := ?_) (by simp only [List.getElem?_toArray, List.getElem?_cons_succ, List.getElem?_cons_zero]; rfl) (by kernel_rfl) (by kernel_rfl) (by kernel_rfl) (by exact fun _ _ _ h => h) (Or.inl ⟨by rfl, ?_⟩) (by assumption) ?_; rotate_left; focus (intro w hSw; (try dsimp only at hSw); first | (go_simp; done) | (go_simp; with_reducible rfl))
      try simp only [Act.put, List.setIfInBounds_toArray, List.set_cons_zero, List.set_cons_succ]
      refine wpAnyH_take (i := 6) (v := ?_) (by simp only [List.getElem?_toArray, List.getElem?_cons_succ, List.getElem?_cons_zero]; rfl) (by kernel_rfl) (by kernel_rfl) (by kernel_rfl) (by exact fun _ _ _ h => h) (Or.inl ⟨by rfl, ?_⟩) (by assumption) ?_; rotate_left; focus (intro w hSw; (try dsimp only at hSw); first | (go_simp; done) | (go_simp; with_reducible rfl))
      try simp only [Act.put, List.setIfInBounds_toArray, List.set_cons_zero, List.set_cons_succ]
      refine wpAnyH_take (i := 7) (v := undef) (by simp only [List.getElem?_toArray, List.getElem?_cons_succ, List.getElem?_cons_zero]; rfl) (by kernel_rfl) (by kernel_rfl) (by kernel_rfl) (by exact fun _ _ _ h => h) (Or.inr ⟨by rfl, rfl⟩) (by assumption) ?_
      try simp only [Act.put, List.setIfInBounds_toArray, List.set_cons_zero, List.set_cons_succ]
      refine wpAnyH_take (i := 8) (v := undef) (by simp only [List.getElem?_toArray, List.getElem?_cons_succ, List.getElem?_cons_zero]; rfl) (by kernel_rfl) (by kernel_rfl) (by kernel_rfl) (by exact fun _ _ _ h => h) (Or.inr ⟨by rfl, rfl⟩) (by assumption) ?_
      try simp only [Act.put, List.setIfInBounds_toArray, List.set_cons_zero, List.set_cons_succ]
      refine wpAnyH_take (i := 9) (v := undef) (by simp only [List.getElem?_toArray, List.getElem?_cons_succ, List.getElem?_cons_zero]; rfl) (by kernel_rfl) (by kernel_rfl) (by kernel_rfl) (by exact fun _ _ _ h => h) (Or.inr ⟨by rfl, rfl⟩) (by assumption) ?_
      try simp only [Act.put, List.setIfInBounds_toArray, List.set_cons_zero, List.set_cons_succ]
      refine wpAnyH_take (i := 10) (v := undef) (by simp only [List.getElem?_toArray, List.getElem?_cons_succ, List.getElem?_cons_zero]; rfl) (by kernel_rfl) (by kernel_rfl) (by kernel_rfl) (by exact fun _ _ _ h => h) (Or.inr ⟨by rfl, rfl⟩) (by assumption) ?_
      try simp only [Act.put, List.setIfInBounds_toArray, List.set_cons_zero, List.set_cons_succ]
      refine wpAnyH_take (i := 11) (v := undef) (by simp only [List.getElem?_toArray, List.getElem?_cons_succ, List.getElem?_cons_zero]; rfl) (by kernel_rfl) (by kernel_rfl) (by kernel_rfl) (by exact fun _ _ _ h => h) (Or.inr ⟨by rfl, rfl⟩) (by assumption) ?_
      try simp only [Act.put, List.setIfInBounds_toArray, List.set_cons_zero, List.set_cons_succ]
      refine wpAnyH_take (i := 12) (v := undef) (by simp only [List.getElem?_toArray, List.getElem?_cons_succ, List.getElem?_cons_zero]; rfl) (by kernel_rfl) (by kernel_rfl) (by kernel_rfl) (by exact fun _ _ _ h => h) (Or.inr ⟨by rfl, rfl⟩) (by assumption) ?_
      try simp only [Act.put, List.setIfInBounds_toArray, List.set_cons_zero, List.set_cons_succ]
      refine wpAnyH_take (i := 13) (v := ?_) (by simp only [List.getElem?_toArray, List.getElem?_cons_succ, List.getElem?_cons_zero]; rfl) (by kernel_rfl) (by kernel_rfl) (by kernel_rfl) (by exact fun _ _ _ h => h) (Or.inl ⟨by rfl, ?_⟩) (by assumption) ?_; rotate_left; focus (intro w hSw; (try dsimp only at hSw); first | (go_simp; done) | (go_simp; with_reducible rfl))
      try simp only [Act.put, List.setIfInBounds_toArray, List.set_cons_zero, List.set_cons_succ]
      refine wpAnyH_take (i := 14) (v := ?_) (by simp only [List.getElem?_toArray, List.getElem?_cons_succ, List.getElem?_cons_zero]; rfl) (by kernel_rfl) (by kernel_rfl) (by kernel_rfl) (by exact fun _ _ _ h => h) (Or.inl ⟨by rfl, ?_⟩) (by assumption) ?_; rotate_left; focus (intro w hSw; (try dsimp only at hSw); first | (go_simp; done) | (go_simp; with_reducible rfl))
      try simp only [Act.put, List.setIfInBounds_toArray, List.set_cons_zero, List.set_cons_succ]
      refine wpAnyH_take (i := 15) (v := ?_) (by simp only [List.getElem?_toArray, List.getElem?_cons_succ, List.getElem?_cons_zero]; rfl) (by kernel_rfl) (by kernel_rfl) (by kernel_rfl) (by exact fun _ _ _ h => h) (Or.inl ⟨by rfl, ?_⟩) (by assumption) ?_; rotate_left; focus (intro w hSw; (try dsimp only at hSw); first | (go_simp; done) | (go_simp; with_reducible rfl))
      try simp only [Act.put, List.setIfInBounds_toArray, List.set_cons_zero, List.set_cons_succ]
      refine wpAnyH_take (i := 16) (v := ?_) (by simp only [List.getElem?_toArray, List.getElem?_cons_succ, List.getElem?_cons_zero]; rfl) (by kernel_rfl) (by kernel_rfl) (by kernel_rfl) (by exact fun _ _ _ h => h) (Or.inl ⟨by rfl, ?_⟩) (by assumption) ?_; rotate_left; focus (intro w hSw; (try dsimp only at hSw); first | (go_simp; done) | (go_simp; with_reducible rfl))
      try simp only [Act.put, List.setIfInBounds_toArray, List.set_cons_zero, List.set_cons_succ]
      refine wpAnyH_take (i := 17) (v := ?_) (by simp only [List.getElem?_toArray, List.getElem?_cons_succ, List.getElem?_cons_zero]; rfl) (by kernel_rfl) (by kernel_rfl) (by kernel_rfl) (by exact fun _ _ _ h => h) (Or.inl ⟨by rfl, ?_⟩) (by assumption) ?_; rotate_left; focus (intro w hSw; (try dsimp only at hSw); first | (go_simp; done) | (go_simp; with_reducible rfl))
      try simp only [Act.put, List.setIfInBounds_toArray, List.set_cons_zero, List.set_cons_succ]
      refine wpAnyH_take (i := 18) (v := ?_) (by simp only [List.getElem?_toArray, List.getElem?_cons_succ, List.getElem?_cons_zero]; rfl) (by kernel_rfl) (by kernel_rfl) (by kernel_rfl) (by exact fun _ _ _ h => h) (Or.inl ⟨by rfl, ?_⟩) (by assumption) ?_; rotate_left; focus (intro w hSw; (try dsimp only at hSw); first | (go_simp; done) | (go_simp; with_reducible rfl))
      try simp only [Act.put, List.setIfInBounds_toArray, List.set_cons_zero, List.set_cons_succ]
      refine wpAnyH_take (i := 19) (v := ?_) (by simp only [List.getElem?_toArray, List.getElem?_cons_succ, List.getElem?_cons_zero]; rfl) (by kernel_rfl) (by kernel_rfl) (by kernel_rfl) (by exact fun _ _ _ h => h) (Or.inl ⟨by rfl, ?_⟩) (by assumption) ?_; rotate_left; focus (intro w hSw; (try dsimp only at hSw); first | (go_simp; done) | (go_simp; with_reducible rfl))
      try simp only [Act.put, List.setIfInBounds_toArray, List.set_cons_zero, List.set_cons_succ]
      refine wpAnyH_take (i := 20) (v := ?_) (by simp only [List.getElem?_toArray, List.getElem?_cons_succ, List.getElem?_cons_zero]; rfl) (by kernel_rfl) (by kernel_rfl) (by kernel_rfl) (by exact fun _ _ _ h => h) (Or.inl ⟨by rfl, ?_⟩) (by assumption) ?_; rotate_left; focus (intro w hSw; (try dsimp only at hSw); first | (go_simp; done) | (go_simp; with_reducible rfl))
      try simp only [Act.put, List.setIfInBounds_toArray, List.set_cons_zero, List.set_cons_succ]
      refine wpAnyH_take (i := 21) (v := ?_) (by simp only [List.getElem?_toArray, List.getElem?_cons_succ, List.getElem?_cons_zero]; rfl) (by kernel_rfl) (by kernel_rfl) (by kernel_rfl) (by exact fun _ _ _ h => h) (Or.inl ⟨by rfl, ?_⟩) (by assumption) ?_; rotate_left; focus (intro w hSw; (try dsimp only at hSw); first | (go_simp; done) | (go_simp; with_reducible rfl))
      try simp only [Act.put, List.setIfInBounds_toArray, List.set_cons_zero, List.set_cons_succ]
      refine wpAnyH_take (i := 22) (v := ?_) (by simp only [List.getElem?_toArray, List.getElem?_cons_succ, List.getElem?_cons_zero]; rfl) (by kernel_rfl) (by kernel_rfl) (by kernel_rfl) (by exact fun _ _ _ h => h) (Or.inl ⟨by rfl, ?_⟩) (by assumption) ?_; rotate_left; focus (intro w hSw; (try dsimp only at hSw); first | (go_simp; done) | (go_simp; with_reducible rfl))
      try simp only [Act.put, List.setIfInBounds_toArray, List.set_cons_zero, List.set_cons_succ]
      refine wpAnyH_take (i := 23) (v := ?_) (by simp only [List.getElem?_toArray, List.getElem?_cons_succ, List.getElem?_cons_zero]; rfl) (by kernel_rfl) (by kernel_rfl) (by kernel_rfl) (by exact fun _ _ _ h => h) (Or.inl ⟨by rfl, ?_⟩) (by assumption) ?_; rotate_left; focus (intro w hSw; (try dsimp only at hSw); first | (go_simp; done) | (go_simp; with_reducible rfl))
      try simp only [Act.put, List.setIfInBounds_toArray, List.set_cons_zero, List.set_cons_succ]
      refine wpAnyH_take (i := 24) (v := ?_) (by simp only [List.getElem?_toArray, List.getElem?_cons_succ, List.getElem?_cons_zero]; rfl) (by kernel_rfl) (by kernel_rfl) (by kernel_rfl) (by exact fun _ _ _ h => h) (Or.inl ⟨by rfl, ?_⟩) (by assumption) ?_; rotate_left; focus (intro w hSw; (try dsimp only at hSw); first | (go_simp; done) | (go_simp; with_reducible rfl))
      try simp only [Act.put, List.setIfInBounds_toArray, List.set_cons_zero, List.set_cons_succ]
      refine wpAnyH_take (i := 25) (v := ?_) (by simp only [List.getElem?_toArray, List.getElem?_cons_succ, List.getElem?_cons_zero]; rfl) (by kernel_rfl) (by kernel_rfl) (by kernel_rfl) (by exact fun _ _ _ h => h) (Or.inl ⟨by rfl, ?_⟩) (by assumption) ?_; rotate_left; focus (intro w hSw; (try dsimp only at hSw); first | (go_simp; done) | (go_simp; with_reducible rfl))
      try simp only [Act.put, List.setIfInBounds_toArray, List.set_cons_zero, List.set_cons_succ]
      refine wpAnyH_take (i := 26) (v := ?_) (by simp only [List.getElem?_toArray, List.getElem?_cons_succ, List.getElem?_cons_zero]; rfl) (by kernel_rfl) (by kernel_rfl) (by kernel_rfl) (by exact fun _ _ _ h => h) (Or.inl ⟨by rfl, ?_⟩) (by assumption) ?_; rotate_left; focus (intro w hSw; (try dsimp only at hSw); first | (go_simp; done) | (go_simp; with_reducible rfl))
      try simp only [Act.put, List.setIfInBounds_toArray, List.set_cons_zero, List.set_cons_succ]
      refine wpAnyH_take (i := 27) (v := ?_) (by simp only [List.getElem?_toArray, List.getElem?_cons_succ, List.getElem?_cons_zero]; rfl) (by kernel_rfl) (by kernel_rfl) (by kernel_rfl) (by exact fun _ _ _ h => h) (Or.inl ⟨by rfl, ?_⟩) (by assumption) ?_; rotate_left; focus (intro w hSw; (try dsimp only at hSw); first | (go_simp; done) | (go_simp; with_reducible rfl))
      try simp only [Act.put, List.setIfInBounds_toArray, List.set_cons_zero, List.set_cons_succ]
      refine wpAnyH_take (i := 30) (v := ?_) (by simp only [List.getElem?_toArray, List.getElem?_cons_succ, List.getElem?_cons_zero]; rfl) (by kernel_rfl) (by kernel_rfl) (by kernel_rfl) (by exact fun _ _ _ h => h) (Or.inl ⟨by rfl, ?_⟩) (by assumption) ?_; rotate_left; focus (intro w hSw; (try dsimp only at hSw); first | (go_simp; done) | (go_simp; with_reducible rfl))
      try simp only [Act.put, List.setIfInBounds_toArray, List.set_cons_zero, List.set_cons_succ]
      refine wpAnyH_take (i := 31) (v := ?_) (by simp only [List.getElem?_toArray, List.getElem?_cons_succ, List.getElem?_cons_zero]; rfl) (by kernel_rfl) (by kernel_rfl) (by kernel_rfl) (by exact fun _ _ _ h => h) (Or.inl ⟨by rfl, ?_⟩) (by assumption) ?_; rotate_left; focus (intro w hSw; (try dsimp only at hSw); first | (go_simp; done) | (go_simp; with_reducible rfl))
      try simp only [Act.put, List.setIfInBounds_toArray, List.set_cons_zero, List.set_cons_succ]
      refine wpAnyH_take (i := 32) (v := ?_) (by simp only [List.getElem?_toArray, List.getElem?_cons_succ, List.getElem?_cons_zero]; rfl) (by kernel_rfl) (by kernel_rfl) (by kernel_rfl) (by exact fun _ _ _ h => h) (Or.inl ⟨by rfl, ?_⟩) (by assumption) ?_; rotate_left; focus (intro w hSw; (try dsimp only at hSw); first | (go_simp; done) | (go_simp; with_reducible rfl))
      try simp only [Act.put, List.setIfInBounds_toArray, List.set_cons_zero, List.set_cons_succ]
      refine wpAnyH_take (i := 33) (v := ?_) (by simp only [List.getElem?_toArray, List.getElem?_cons_succ, List.getElem?_cons_zero]; rfl) (by kernel_rfl) (by kernel_rfl) (by kernel_rfl) (by exact fun _ _ _ h => h) (Or.inl ⟨by rfl, ?_⟩) (by assumption) ?_; rotate_left; focus (intro w hSw; (try dsimp only at hSw); first | (go_simp; done) | (go_simp; with_reducible rfl))
      try simp only [Act.put, List.setIfInBounds_toArray, List.set_cons_zero, List.set_cons_succ]
      refine wpAnyH_ready (rs := [28]) (by kernel_rfl) (by simp) ?_
      refine AllReadyH.cons rfl (fun K hK => ?_) AllReadyH.nil
      rw [if_pos (by rfl)]
      go_simp
      go_at_call 21
      have kB := hHeld.2.2.2.2.2.2.2.2.2.2.2.2
      refine (implSureStarts _ _ f _ _ d (k : Int) s _ (RF12.out.below kB.out) (RC12.out.below kB.out) HNM.out HSW.out).mono ?_
      rw [HL1.out]
      rintro e wq28 ⟨v1, rfl, ho, hbk⟩
      have hl := HE1.out
      have SW1 := Lib.hid (own_sl windowLen ho (by omega))
      obtain ⟨AW1, cw1, rfl⟩ := own_form ho
      clear ho hl
      have HBK := kB.out.trans (hbk.mono kB.out.size)
      have QS := Lib.hid (show wq28.cell? ⟨w1.heap.size, 0, none⟩ = some (.int .i64 f.mean) ∧ wq28.cell? ⟨w1.heap.size, 1, none⟩ = some (.slice FA0 f.parts.length fc0) ∧ wq28.cell? ⟨w1.heap.size, 2, none⟩ = some (.slice FA1 f.surges.length fc1) ∧ wq28.cell? ⟨w3.heap.size, 0, none⟩ = some (.slice A0 n0 k0) ∧ wq28.cell? ⟨w3.heap.size, 1, none⟩ = some (.slice (some ⟨g', o', none⟩) n1 k1) ∧ wq28.cell? ⟨w5.heap.size, 0, none⟩ = some (.string s.name) ∧ wq28.cell? ⟨w5.heap.size, 1, none⟩ = some (.int .i64 s.length) ∧ wq28.cell? ⟨w5.heap.size, 2, none⟩ = some (.int .i64 s.draught) ∧ wq28.cell? ⟨w5.heap.size, 3, none⟩ = some (.int .i64 s.line) ∧ wq28.cell? ⟨w5.heap.size, 4, none⟩ = some (.int .i64 s.tugs) ∧ wq28.cell? ⟨w5.heap.size, 5, none⟩ = some (.bool s.slow) ∧ wq28.cell? ⟨g', o' + k * 5 + 2, none⟩ = some (.int .i64 g.depth) ∧ Hid (Below w12.heap.size w12 wq28) from ⟨cell_onV FKF0.out HBK, cell_onV FKF1.out HBK, cell_onV FKF2.out HBK, cell_onV FKC0.out HBK, cell_onV FKC1.out HBK, cell_onV FKS0.out HBK, cell_onV FKS1.out HBK, cell_onV FKS2.out HBK, cell_onV FKS3.out HBK, cell_onV FKS4.out HBK, cell_onV FKS5.out HBK, cell_onV FD.out HBK, Lib.hid HBK⟩)
      clear hbk kB hHeld HBK
      go_simp
      refine hK.out _ _ ?_ (fun hHeld => ?_)
      · (try dsimp only); exact QS.out
      clear hK K
      try simp only [Act.put, List.setIfInBounds_toArray, List.set_cons_zero, List.set_cons_succ]
      refine wpAnyH_ready (rs := [29]) (by kernel_rfl) (by simp) ?_
      refine AllReadyH.cons rfl (fun K hK => ?_) AllReadyH.nil
      rw [if_pos (by rfl)]
      go_simp
      go_at_call 20
      have kB := hHeld.2.2.2.2.2.2.2.2.2.2.2.2
      refine (implCountMinutes _ L1 _ SW1.out).mono ?_
      rw [HC1.out]
      rintro e wq29 ⟨rfl, hbk⟩
      have HBK := kB.out.trans (hbk.mono kB.out.size)
      have QS := Lib.hid (show wq29.cell? ⟨w1.heap.size, 0, none⟩ = some (.int .i64 f.mean) ∧ wq29.cell? ⟨w1.heap.size, 1, none⟩ = some (.slice FA0 f.parts.length fc0) ∧ wq29.cell? ⟨w1.heap.size, 2, none⟩ = some (.slice FA1 f.surges.length fc1) ∧ wq29.cell? ⟨w3.heap.size, 0, none⟩ = some (.slice A0 n0 k0) ∧ wq29.cell? ⟨w3.heap.size, 1, none⟩ = some (.slice (some ⟨g', o', none⟩) n1 k1) ∧ wq29.cell? ⟨w5.heap.size, 0, none⟩ = some (.string s.name) ∧ wq29.cell? ⟨w5.heap.size, 1, none⟩ = some (.int .i64 s.length) ∧ wq29.cell? ⟨w5.heap.size, 2, none⟩ = some (.int .i64 s.draught) ∧ wq29.cell? ⟨w5.heap.size, 3, none⟩ = some (.int .i64 s.line) ∧ wq29.cell? ⟨w5.heap.size, 4, none⟩ = some (.int .i64 s.tugs) ∧ wq29.cell? ⟨w5.heap.size, 5, none⟩ = some (.bool s.slow) ∧ wq29.cell? ⟨g', o' + k * 5 + 2, none⟩ = some (.int .i64 g.depth) ∧ Hid (Below w12.heap.size w12 wq29) from ⟨cell_onV FKF0.out HBK, cell_onV FKF1.out HBK, cell_onV FKF2.out HBK, cell_onV FKC0.out HBK, cell_onV FKC1.out HBK, cell_onV FKS0.out HBK, cell_onV FKS1.out HBK, cell_onV FKS2.out HBK, cell_onV FKS3.out HBK, cell_onV FKS4.out HBK, cell_onV FKS5.out HBK, cell_onV FD.out HBK, Lib.hid HBK⟩)
      clear hbk kB hHeld HBK
      go_simp
      refine hK.out _ _ ?_ (fun hHeld => ?_)
      · (try dsimp only); exact QS.out
      clear hK K
      try simp only [Act.put, List.setIfInBounds_toArray, List.set_cons_zero, List.set_cons_succ]
      refine wpAnyH_ready (rs := [34]) (by kernel_rfl) (by simp) ?_
      refine AllReadyH.cons rfl (fun K hK => ?_) AllReadyH.nil
      rw [if_pos (by rfl)]
      go_simp
      go_at_call 22
      have kB := hHeld.2.2.2.2.2.2.2.2.2.2.2.2
      refine (implOpenStarts _ _ f _ _ d (k : Int) s _ (RF12.out.below kB.out) (RC12.out.below kB.out) HNM.out HSW.out).mono ?_
      rw [HL2.out]
      rintro e wq34 ⟨v2, rfl, ho, hbk⟩
      have hl := HE2.out
      have SW2 := Lib.hid (own_sl windowLen ho (by omega))
      obtain ⟨AW2, cw2, rfl⟩ := own_form ho
      clear ho hl
      have HBK := kB.out.trans (hbk.mono kB.out.size)
      have QS := Lib.hid (show wq34.cell? ⟨w1.heap.size, 0, none⟩ = some (.int .i64 f.mean) ∧ wq34.cell? ⟨w1.heap.size, 1, none⟩ = some (.slice FA0 f.parts.length fc0) ∧ wq34.cell? ⟨w1.heap.size, 2, none⟩ = some (.slice FA1 f.surges.length fc1) ∧ wq34.cell? ⟨w3.heap.size, 0, none⟩ = some (.slice A0 n0 k0) ∧ wq34.cell? ⟨w3.heap.size, 1, none⟩ = some (.slice (some ⟨g', o', none⟩) n1 k1) ∧ wq34.cell? ⟨w5.heap.size, 0, none⟩ = some (.string s.name) ∧ wq34.cell? ⟨w5.heap.size, 1, none⟩ = some (.int .i64 s.length) ∧ wq34.cell? ⟨w5.heap.size, 2, none⟩ = some (.int .i64 s.draught) ∧ wq34.cell? ⟨w5.heap.size, 3, none⟩ = some (.int .i64 s.line) ∧ wq34.cell? ⟨w5.heap.size, 4, none⟩ = some (.int .i64 s.tugs) ∧ wq34.cell? ⟨w5.heap.size, 5, none⟩ = some (.bool s.slow) ∧ wq34.cell? ⟨g', o' + k * 5 + 2, none⟩ = some (.int .i64 g.depth) ∧ Hid (Below w12.heap.size w12 wq34) from ⟨cell_onV FKF0.out HBK, cell_onV FKF1.out HBK, cell_onV FKF2.out HBK, cell_onV FKC0.out HBK, cell_onV FKC1.out HBK, cell_onV FKS0.out HBK, cell_onV FKS1.out HBK, cell_onV FKS2.out HBK, cell_onV FKS3.out HBK, cell_onV FKS4.out HBK, cell_onV FKS5.out HBK, cell_onV FD.out HBK, Lib.hid HBK⟩)
      clear hbk kB hHeld HBK
      go_simp
      refine hK.out _ _ ?_ (fun hHeld => ?_)
      · (try dsimp only); exact QS.out
      clear hK K
      try simp only [Act.put, List.setIfInBounds_toArray, List.set_cons_zero, List.set_cons_succ]
      refine wpAnyH_ready (rs := [35]) (by kernel_rfl) (by simp) ?_
      refine AllReadyH.cons rfl (fun K hK => ?_) AllReadyH.nil
      rw [if_pos (by rfl)]
      go_simp
      go_at_call 20
      have kB := hHeld.2.2.2.2.2.2.2.2.2.2.2.2
      refine (implCountMinutes _ L2 _ SW2.out).mono ?_
      rw [HC2.out]
      rintro e wq35 ⟨rfl, hbk⟩
      have HBK := kB.out.trans (hbk.mono kB.out.size)
      have QS := Lib.hid (show wq35.cell? ⟨w1.heap.size, 0, none⟩ = some (.int .i64 f.mean) ∧ wq35.cell? ⟨w1.heap.size, 1, none⟩ = some (.slice FA0 f.parts.length fc0) ∧ wq35.cell? ⟨w1.heap.size, 2, none⟩ = some (.slice FA1 f.surges.length fc1) ∧ wq35.cell? ⟨w3.heap.size, 0, none⟩ = some (.slice A0 n0 k0) ∧ wq35.cell? ⟨w3.heap.size, 1, none⟩ = some (.slice (some ⟨g', o', none⟩) n1 k1) ∧ wq35.cell? ⟨w5.heap.size, 0, none⟩ = some (.string s.name) ∧ wq35.cell? ⟨w5.heap.size, 1, none⟩ = some (.int .i64 s.length) ∧ wq35.cell? ⟨w5.heap.size, 2, none⟩ = some (.int .i64 s.draught) ∧ wq35.cell? ⟨w5.heap.size, 3, none⟩ = some (.int .i64 s.line) ∧ wq35.cell? ⟨w5.heap.size, 4, none⟩ = some (.int .i64 s.tugs) ∧ wq35.cell? ⟨w5.heap.size, 5, none⟩ = some (.bool s.slow) ∧ wq35.cell? ⟨g', o' + k * 5 + 2, none⟩ = some (.int .i64 g.depth) ∧ Hid (Below w12.heap.size w12 wq35) from ⟨cell_onV FKF0.out HBK, cell_onV FKF1.out HBK, cell_onV FKF2.out HBK, cell_onV FKC0.out HBK, cell_onV FKC1.out HBK, cell_onV FKS0.out HBK, cell_onV FKS1.out HBK, cell_onV FKS2.out HBK, cell_onV FKS3.out HBK, cell_onV FKS4.out HBK, cell_onV FKS5.out HBK, cell_onV FD.out HBK, Lib.hid HBK⟩)
      clear hbk kB hHeld HBK
      go_simp
      refine hK.out _ _ ?_ (fun hHeld => ?_)
      · (try dsimp only); exact QS.out
      clear hK K
      try simp only [Act.put, List.setIfInBounds_toArray, List.set_cons_zero, List.set_cons_succ]
      refine wpAnyH_take (i := 36) (v := ?_) (by simp only [List.getElem?_toArray, List.getElem?_cons_succ, List.getElem?_cons_zero]; rfl) (by kernel_rfl) (by kernel_rfl) (by kernel_rfl) (by exact fun _ _ _ h => h) (Or.inl ⟨by rfl, ?_⟩) (by assumption) ?_; rotate_left; focus (intro w hSw; (try dsimp only at hSw); first | (go_simp; done) | (go_simp; with_reducible rfl))
      try simp only [Act.put, List.setIfInBounds_toArray, List.set_cons_zero, List.set_cons_succ]
      refine wpAnyH_take (i := 37) (v := ?_) (by simp only [List.getElem?_toArray, List.getElem?_cons_succ, List.getElem?_cons_zero]; rfl) (by kernel_rfl) (by kernel_rfl) (by kernel_rfl) (by exact fun _ _ _ h => h) (Or.inl ⟨by rfl, ?_⟩) (by assumption) ?_; rotate_left; focus (intro w hSw; (try dsimp only at hSw); first | (go_simp; done) | (go_simp; with_reducible rfl))
      try simp only [Act.put, List.setIfInBounds_toArray, List.set_cons_zero, List.set_cons_succ]
      refine wpAnyH_take (i := 38) (v := ?_) (by simp only [List.getElem?_toArray, List.getElem?_cons_succ, List.getElem?_cons_zero]; rfl) (by kernel_rfl) (by kernel_rfl) (by kernel_rfl) (by exact fun _ _ _ h => h) (Or.inl ⟨by rfl, ?_⟩) (by assumption) ?_; rotate_left; focus (intro w hSw; (try dsimp only at hSw); first | (go_simp; done) | (go_simp; with_reducible rfl))
      try simp only [Act.put, List.setIfInBounds_toArray, List.set_cons_zero, List.set_cons_succ]
      refine wpAnyH_take (i := 39) (v := ?_) (by simp only [List.getElem?_toArray, List.getElem?_cons_succ, List.getElem?_cons_zero]; rfl) (by kernel_rfl) (by kernel_rfl) (by kernel_rfl) (by exact fun _ _ _ h => h) (Or.inl ⟨by rfl, ?_⟩) (by assumption) ?_; rotate_left; focus (intro w hSw; (try dsimp only at hSw); first | (go_simp; done) | (go_simp; with_reducible rfl))
      try simp only [Act.put, List.setIfInBounds_toArray, List.set_cons_zero, List.set_cons_succ]
      refine wpAnyH_take (i := 40) (v := ?_) (by simp only [List.getElem?_toArray, List.getElem?_cons_succ, List.getElem?_cons_zero]; rfl) (by kernel_rfl) (by kernel_rfl) (by kernel_rfl) (by exact fun _ _ _ h => h) (Or.inl ⟨by rfl, ?_⟩) (by assumption) ?_; rotate_left; focus (intro w hSw; (try dsimp only at hSw); first | (go_simp; done) | (go_simp; with_reducible rfl))
      try simp only [Act.put, List.setIfInBounds_toArray, List.set_cons_zero, List.set_cons_succ]
      refine wpAnyH_take (i := 41) (v := ?_) (by simp only [List.getElem?_toArray, List.getElem?_cons_succ, List.getElem?_cons_zero]; rfl) (by kernel_rfl) (by kernel_rfl) (by kernel_rfl) (by exact fun _ _ _ h => h) (Or.inl ⟨by rfl, ?_⟩) (by assumption) ?_; rotate_left; focus (intro w hSw; (try dsimp only at hSw); first | (go_simp; done) | (go_simp; with_reducible rfl))
      try simp only [Act.put, List.setIfInBounds_toArray, List.set_cons_zero, List.set_cons_succ]
      refine wpAnyH_take (i := 43) (v := ?_) (by simp only [List.getElem?_toArray, List.getElem?_cons_succ, List.getElem?_cons_zero]; rfl) (by kernel_rfl) (by kernel_rfl) (by kernel_rfl) (by exact fun _ _ _ h => h) (Or.inl ⟨by rfl, ?_⟩) (by assumption) ?_; rotate_left; focus (intro w hSw; (try dsimp only at hSw); first | (go_simp; done) | (go_simp; with_reducible rfl))
      try simp only [Act.put, List.setIfInBounds_toArray, List.set_cons_zero, List.set_cons_succ]
      refine wpAnyH_take (i := 45) (v := ?_) (by simp only [List.getElem?_toArray, List.getElem?_cons_succ, List.getElem?_cons_zero]; rfl) (by kernel_rfl) (by kernel_rfl) (by kernel_rfl) (by exact fun _ _ _ h => h) (Or.inl ⟨by rfl, ?_⟩) (by assumption) ?_; rotate_left; focus (intro w hSw; (try dsimp only at hSw); first | (go_simp; done) | (go_simp; with_reducible rfl))
      try simp only [Act.put, List.setIfInBounds_toArray, List.set_cons_zero, List.set_cons_succ]
      refine wpAnyH_take (i := 46) (v := ?_) (by simp only [List.getElem?_toArray, List.getElem?_cons_succ, List.getElem?_cons_zero]; rfl) (by kernel_rfl) (by kernel_rfl) (by kernel_rfl) (by exact fun _ _ _ h => h) (Or.inl ⟨by rfl, ?_⟩) (by assumption) ?_; rotate_left; focus (intro w hSw; (try dsimp only at hSw); first | (go_simp; done) | (go_simp; with_reducible rfl))
      try simp only [Act.put, List.setIfInBounds_toArray, List.set_cons_zero, List.set_cons_succ]
      refine wpAnyH_take (i := 47) (v := ?_) (by simp only [List.getElem?_toArray, List.getElem?_cons_succ, List.getElem?_cons_zero]; rfl) (by kernel_rfl) (by kernel_rfl) (by kernel_rfl) (by exact fun _ _ _ h => h) (Or.inl ⟨by rfl, ?_⟩) (by assumption) ?_; rotate_left; focus (intro w hSw; (try dsimp only at hSw); first | (go_simp; done) | (go_simp; with_reducible rfl))
      try simp only [Act.put, List.setIfInBounds_toArray, List.set_cons_zero, List.set_cons_succ]
      refine wpAnyH_take (i := 48) (v := ?_) (by simp only [List.getElem?_toArray, List.getElem?_cons_succ, List.getElem?_cons_zero]; rfl) (by kernel_rfl) (by kernel_rfl) (by kernel_rfl) (by exact fun _ _ _ h => h) (Or.inl ⟨by rfl, ?_⟩) (by assumption) ?_; rotate_left; focus (intro w hSw; (try dsimp only at hSw); first | (go_simp; done) | (go_simp; with_reducible rfl))
      try simp only [Act.put, List.setIfInBounds_toArray, List.set_cons_zero, List.set_cons_succ]
      refine wpAnyH_take (i := 49) (v := ?_) (by simp only [List.getElem?_toArray, List.getElem?_cons_succ, List.getElem?_cons_zero]; rfl) (by kernel_rfl) (by kernel_rfl) (by kernel_rfl) (by exact fun _ _ _ h => h) (Or.inl ⟨by rfl, ?_⟩) (by assumption) ?_; rotate_left; focus (intro w hSw; (try dsimp only at hSw); first | (go_simp; done) | (go_simp; with_reducible rfl))
      try simp only [Act.put, List.setIfInBounds_toArray, List.set_cons_zero, List.set_cons_succ]
      refine wpAnyH_take (i := 50) (v := ?_) (by simp only [List.getElem?_toArray, List.getElem?_cons_succ, List.getElem?_cons_zero]; rfl) (by kernel_rfl) (by kernel_rfl) (by kernel_rfl) (by exact fun _ _ _ h => h) (Or.inl ⟨by rfl, ?_⟩) (by assumption) ?_; rotate_left; focus (intro w hSw; (try dsimp only at hSw); first | (go_simp; done) | (go_simp; with_reducible rfl))
      try simp only [Act.put, List.setIfInBounds_toArray, List.set_cons_zero, List.set_cons_succ]
      refine wpAnyH_ready (rs := [42]) (by kernel_rfl) (by simp) ?_
      refine AllReadyH.cons rfl (fun K hK => ?_) AllReadyH.nil
      rw [if_pos (by rfl)]
      go_simp
      go_at_call 23
      have kB := hHeld.2.2.2.2.2.2.2.2.2.2.2.2
      refine (implLevelFor _ _ d (k : Int) s _ (RC12.out.below kB.out) HNM.out HSW.out).mono ?_
      rw [HLV.out]
      rintro e wq42 ⟨rfl, hbk⟩
      have HBK := kB.out.trans (hbk.mono kB.out.size)
      have QS := Lib.hid (show wq42.cell? ⟨w1.heap.size, 0, none⟩ = some (.int .i64 f.mean) ∧ wq42.cell? ⟨w1.heap.size, 1, none⟩ = some (.slice FA0 f.parts.length fc0) ∧ wq42.cell? ⟨w1.heap.size, 2, none⟩ = some (.slice FA1 f.surges.length fc1) ∧ wq42.cell? ⟨w3.heap.size, 0, none⟩ = some (.slice A0 n0 k0) ∧ wq42.cell? ⟨w3.heap.size, 1, none⟩ = some (.slice (some ⟨g', o', none⟩) n1 k1) ∧ wq42.cell? ⟨w5.heap.size, 0, none⟩ = some (.string s.name) ∧ wq42.cell? ⟨w5.heap.size, 1, none⟩ = some (.int .i64 s.length) ∧ wq42.cell? ⟨w5.heap.size, 2, none⟩ = some (.int .i64 s.draught) ∧ wq42.cell? ⟨w5.heap.size, 3, none⟩ = some (.int .i64 s.line) ∧ wq42.cell? ⟨w5.heap.size, 4, none⟩ = some (.int .i64 s.tugs) ∧ wq42.cell? ⟨w5.heap.size, 5, none⟩ = some (.bool s.slow) ∧ wq42.cell? ⟨g', o' + k * 5 + 2, none⟩ = some (.int .i64 g.depth) ∧ Hid (Below w12.heap.size w12 wq42) from ⟨cell_onV FKF0.out HBK, cell_onV FKF1.out HBK, cell_onV FKF2.out HBK, cell_onV FKC0.out HBK, cell_onV FKC1.out HBK, cell_onV FKS0.out HBK, cell_onV FKS1.out HBK, cell_onV FKS2.out HBK, cell_onV FKS3.out HBK, cell_onV FKS4.out HBK, cell_onV FKS5.out HBK, cell_onV FD.out HBK, Lib.hid HBK⟩)
      clear hbk kB hHeld HBK
      go_simp
      refine hK.out _ _ ?_ (fun hHeld => ?_)
      · (try dsimp only); exact QS.out
      clear hK K
      try simp only [Act.put, List.setIfInBounds_toArray, List.set_cons_zero, List.set_cons_succ]
      refine wpAnyH_ready (rs := [44]) (by kernel_rfl) (by simp) ?_
      refine AllReadyH.cons rfl (fun K hK => ?_) AllReadyH.nil
      rw [if_pos (by rfl)]
      go_simp
      go_at_call 13
      have kB := hHeld.2.2.2.2.2.2.2.2.2.2.2.2
      refine (implNeedOf s _ HSW.out).mono ?_
      rw [HN2.out]
      rintro e wq44 ⟨rfl, hbk⟩
      have HBK := kB.out.trans (hbk.mono kB.out.size)
      have QS := Lib.hid (show wq44.cell? ⟨w1.heap.size, 0, none⟩ = some (.int .i64 f.mean) ∧ wq44.cell? ⟨w1.heap.size, 1, none⟩ = some (.slice FA0 f.parts.length fc0) ∧ wq44.cell? ⟨w1.heap.size, 2, none⟩ = some (.slice FA1 f.surges.length fc1) ∧ wq44.cell? ⟨w3.heap.size, 0, none⟩ = some (.slice A0 n0 k0) ∧ wq44.cell? ⟨w3.heap.size, 1, none⟩ = some (.slice (some ⟨g', o', none⟩) n1 k1) ∧ wq44.cell? ⟨w5.heap.size, 0, none⟩ = some (.string s.name) ∧ wq44.cell? ⟨w5.heap.size, 1, none⟩ = some (.int .i64 s.length) ∧ wq44.cell? ⟨w5.heap.size, 2, none⟩ = some (.int .i64 s.draught) ∧ wq44.cell? ⟨w5.heap.size, 3, none⟩ = some (.int .i64 s.line) ∧ wq44.cell? ⟨w5.heap.size, 4, none⟩ = some (.int .i64 s.tugs) ∧ wq44.cell? ⟨w5.heap.size, 5, none⟩ = some (.bool s.slow) ∧ wq44.cell? ⟨g', o' + k * 5 + 2, none⟩ = some (.int .i64 g.depth) ∧ Hid (Below w12.heap.size w12 wq44) from ⟨cell_onV FKF0.out HBK, cell_onV FKF1.out HBK, cell_onV FKF2.out HBK, cell_onV FKC0.out HBK, cell_onV FKC1.out HBK, cell_onV FKS0.out HBK, cell_onV FKS1.out HBK, cell_onV FKS2.out HBK, cell_onV FKS3.out HBK, cell_onV FKS4.out HBK, cell_onV FKS5.out HBK, cell_onV FD.out HBK, Lib.hid HBK⟩)
      clear hbk kB hHeld HBK
      go_simp
      refine hK.out _ _ ?_ (fun hHeld => ?_)
      · (try dsimp only); exact QS.out
      clear hK K
      try simp only [Act.put, List.setIfInBounds_toArray, List.set_cons_zero, List.set_cons_succ]
      refine wpAnyH_take (i := 51) (v := ?_) (by simp only [List.getElem?_toArray, List.getElem?_cons_succ, List.getElem?_cons_zero]; rfl) (by kernel_rfl) (by kernel_rfl) (by kernel_rfl) (by exact fun _ _ _ h => h) (Or.inl ⟨by rfl, ?_⟩) (by assumption) ?_; rotate_left; focus (intro w hSw; (try dsimp only at hSw); first | (go_simp; done) | (go_simp; with_reducible rfl))
      try simp only [Act.put, List.setIfInBounds_toArray, List.set_cons_zero, List.set_cons_succ]
      refine wpAnyH_take (i := 52) (v := ?_) (by simp only [List.getElem?_toArray, List.getElem?_cons_succ, List.getElem?_cons_zero]; rfl) (by kernel_rfl) (by kernel_rfl) (by kernel_rfl) (by exact fun _ _ _ h => h) (Or.inl ⟨by rfl, ?_⟩) (by assumption) ?_; rotate_left; focus (intro w hSw; (try dsimp only at hSw); first | (go_simp; done) | (go_simp; with_reducible rfl))
      try simp only [Act.put, List.setIfInBounds_toArray, List.set_cons_zero, List.set_cons_succ]
      refine wpAnyH_take (i := 53) (v := ?_) (by simp only [List.getElem?_toArray, List.getElem?_cons_succ, List.getElem?_cons_zero]; rfl) (by kernel_rfl) (by kernel_rfl) (by kernel_rfl) (by exact fun _ _ _ h => h) (Or.inl ⟨by rfl, ?_⟩) (by assumption) ?_; rotate_left; focus (intro w hSw; (try dsimp only at hSw); first | (go_simp; done) | (go_simp; with_reducible rfl))
      try simp only [Act.put, List.setIfInBounds_toArray, List.set_cons_zero, List.set_cons_succ]
      refine wpAnyH_take (i := 54) (v := ?_) (by simp only [List.getElem?_toArray, List.getElem?_cons_succ, List.getElem?_cons_zero]; rfl) (by kernel_rfl) (by kernel_rfl) (by kernel_rfl) (by exact fun _ _ _ h => h) (Or.inl ⟨by rfl, ?_⟩) (by assumption) ?_; rotate_left; focus (intro w hSw; (try dsimp only at hSw); first | (go_simp; done) | (go_simp; with_reducible rfl))
      try simp only [Act.put, List.setIfInBounds_toArray, List.set_cons_zero, List.set_cons_succ]
      refine wpAnyH_done (by kernel_rfl) ?_ _
      go_wp2
      go_ret
      exact ⟨rfl, B12.out.trans (hHeld.2.2.2.2.2.2.2.2.2.2.2.2.out.mono B12.out.size)⟩
    | true =>
      have hdd : s.draught ≤ dr := by have := HSD.out; simpa using this
      have hdd' : decide (s.draught ≤ dr) = true := by simpa using hdd
      have HOP := Lib.hid (HSO.out rfl)
      have FKF0 := Lib.hid (show w12.cell? ⟨w1.heap.size, 0, none⟩ = some (.int .i64 f.mean) from KF12.out.cell 0)
      have FKF1 := Lib.hid (show w12.cell? ⟨w1.heap.size, 1, none⟩ = some (.slice FA0 f.parts.length fc0) from KF12.out.cell 1)
      have FKF2 := Lib.hid (show w12.cell? ⟨w1.heap.size, 2, none⟩ = some (.slice FA1 f.surges.length fc1) from KF12.out.cell 2)
      have FKC0 := Lib.hid (show w12.cell? ⟨w3.heap.size, 0, none⟩ = some (.slice A0 n0 k0) from KC12.out.cell 0)
      have FKC1 := Lib.hid (show w12.cell? ⟨w3.heap.size, 1, none⟩ = some (.slice (some ⟨g', o', none⟩) n1 k1) from KC12.out.cell 1)
      have FKS0 := Lib.hid (show w12.cell? ⟨w5.heap.size, 0, none⟩ = some (.string s.name) from KS12.out.cell 0)
      have FKS1 := Lib.hid (show w12.cell? ⟨w5.heap.size, 1, none⟩ = some (.int .i64 s.length) from KS12.out.cell 1)
      have FKS2 := Lib.hid (show w12.cell? ⟨w5.heap.size, 2, none⟩ = some (.int .i64 s.draught) from KS12.out.cell 2)
      have FKS3 := Lib.hid (show w12.cell? ⟨w5.heap.size, 3, none⟩ = some (.int .i64 s.line) from KS12.out.cell 3)
      have FKS4 := Lib.hid (show w12.cell? ⟨w5.heap.size, 4, none⟩ = some (.int .i64 s.tugs) from KS12.out.cell 4)
      have FKS5 := Lib.hid (show w12.cell? ⟨w5.heap.size, 5, none⟩ = some (.bool s.slow) from KS12.out.cell 5)
      have DD := Lib.hid ((Below.refl w12.heap.size w12).drew)
      have vFKF0 := FKF0.out
      have vFKF1 := FKF1.out
      have vFKF2 := FKF2.out
      have vFKC0 := FKC0.out
      have vFKC1 := FKC1.out
      have vFKS0 := FKS0.out
      have vFKS1 := FKS1.out
      have vFKS2 := FKS2.out
      have vFKS3 := FKS3.out
      have vFKS4 := FKS4.out
      have vFKS5 := FKS5.out
      have vFD := FD.out
      go_upto_region 18 with fail
      refine wp_region_held_drew (S := (fun w' => w'.cell? ⟨w1.heap.size, 0, none⟩ = some (.int .i64 f.mean) ∧ w'.cell? ⟨w1.heap.size, 1, none⟩ = some (.slice FA0 f.parts.length fc0) ∧ w'.cell? ⟨w1.heap.size, 2, none⟩ = some (.slice FA1 f.surges.length fc1) ∧ w'.cell? ⟨w3.heap.size, 0, none⟩ = some (.slice A0 n0 k0) ∧ w'.cell? ⟨w3.heap.size, 1, none⟩ = some (.slice (some ⟨g', o', none⟩) n1 k1) ∧ w'.cell? ⟨w5.heap.size, 0, none⟩ = some (.string s.name) ∧ w'.cell? ⟨w5.heap.size, 1, none⟩ = some (.int .i64 s.length) ∧ w'.cell? ⟨w5.heap.size, 2, none⟩ = some (.int .i64 s.draught) ∧ w'.cell? ⟨w5.heap.size, 3, none⟩ = some (.int .i64 s.line) ∧ w'.cell? ⟨w5.heap.size, 4, none⟩ = some (.int .i64 s.tugs) ∧ w'.cell? ⟨w5.heap.size, 5, none⟩ = some (.bool s.slow) ∧ w'.cell? ⟨g', o' + k * 5 + 2, none⟩ = some (.int .i64 g.depth) ∧ Hid (Below w12.heap.size w12 w'))) (by kernel_rfl) ?_ (fun hHeld => ?_)
      · (try dsimp only); go_keep
      refine wpAnyH_take (i := 0) (v := ?_) (by simp only [List.getElem?_toArray, List.getElem?_cons_zero]; rfl) (by kernel_rfl) (by kernel_rfl) (by kernel_rfl) (by exact fun _ _ _ h => h) (Or.inl ⟨by rfl, ?_⟩) (by assumption) ?_; rotate_left; focus (intro w hSw; (try dsimp only at hSw); first | (go_simp; done) | (go_simp; with_reducible rfl))
      try simp only [Act.put, List.setIfInBounds_toArray, List.set_cons_zero, List.set_cons_succ]
      refine wpAnyH_take (i := 1) (v := ?_) (by simp only [List.getElem?_toArray, List.getElem?_cons_succ, List.getElem?_cons_zero]; rfl) (by kernel_rfl) (by kernel_rfl) (by kernel_rfl) (by exact fun _ _ _ h => h) (Or.inl ⟨by rfl, ?_⟩) (by assumption) ?_; rotate_left; focus (intro w hSw; (try dsimp only at hSw); first | (go_simp; done) | (go_simp; with_reducible rfl))
      try simp only [Act.put, List.setIfInBounds_toArray, List.set_cons_zero, List.set_cons_succ]
      refine wpAnyH_take (i := 2) (v := ?_) (by simp only [List.getElem?_toArray, List.getElem?_cons_succ, List.getElem?_cons_zero]; rfl) (by kernel_rfl) (by kernel_rfl) (by kernel_rfl) (by exact fun _ _ _ h => h) (Or.inl ⟨by rfl, ?_⟩) (by assumption) ?_; rotate_left; focus (intro w hSw; (try dsimp only at hSw); first | (go_simp; done) | (go_simp; with_reducible rfl))
      try simp only [Act.put, List.setIfInBounds_toArray, List.set_cons_zero, List.set_cons_succ]
      refine wpAnyH_take (i := 3) (v := ?_) (by simp only [List.getElem?_toArray, List.getElem?_cons_succ, List.getElem?_cons_zero]; rfl) (by kernel_rfl) (by kernel_rfl) (by kernel_rfl) (by exact fun _ _ _ h => h) (Or.inl ⟨by rfl, ?_⟩) (by assumption) ?_; rotate_left; focus (intro w hSw; (try dsimp only at hSw); first | (go_simp; done) | (go_simp; with_reducible rfl))
      try simp only [Act.put, List.setIfInBounds_toArray, List.set_cons_zero, List.set_cons_succ]
      refine wpAnyH_take (i := 4) (v := ?_) (by simp only [List.getElem?_toArray, List.getElem?_cons_succ, List.getElem?_cons_zero]; rfl) (by kernel_rfl) (by kernel_rfl) (by kernel_rfl) (by exact fun _ _ _ h => h) (Or.inl ⟨by rfl, ?_⟩) (by assumption) ?_; rotate_left; focus (intro w hSw; (try dsimp only at hSw); first | (go_simp; done) | (go_simp; with_reducible rfl))
      try simp only [Act.put, List.setIfInBounds_toArray, List.set_cons_zero, List.set_cons_succ]
      refine wpAnyH_take (i := 5) (v := ?_) (by simp only [List.getElem?_toArray, List.getElem?_cons_succ, List.getElem?_cons_zero]; rfl) (by kernel_rfl) (by kernel_rfl) (by kernel_rfl) (by exact fun _ _ _ h => h) (Or.inl ⟨by rfl, ?_⟩) (by assumption) ?_; rotate_left; focus (intro w hSw; (try dsimp only at hSw); first | (go_simp; done) | (go_simp; with_reducible rfl))
      try simp only [Act.put, List.setIfInBounds_toArray, List.set_cons_zero, List.set_cons_succ]
      refine wpAnyH_take (i := 6) (v := ?_) (by simp only [List.getElem?_toArray, List.getElem?_cons_succ, List.getElem?_cons_zero]; rfl) (by kernel_rfl) (by kernel_rfl) (by kernel_rfl) (by exact fun _ _ _ h => h) (Or.inl ⟨by rfl, ?_⟩) (by assumption) ?_; rotate_left; focus (intro w hSw; (try dsimp only at hSw); first | (go_simp; done) | (go_simp; with_reducible rfl))
      try simp only [Act.put, List.setIfInBounds_toArray, List.set_cons_zero, List.set_cons_succ]
      refine wpAnyH_take (i := 7) (v := ?_) (by simp only [List.getElem?_toArray, List.getElem?_cons_succ, List.getElem?_cons_zero]; rfl) (by kernel_rfl) (by kernel_rfl) (by kernel_rfl) (by exact fun _ _ _ h => h) (Or.inl ⟨by rfl, ?_⟩) (by assumption) ?_; rotate_left; focus (intro w hSw; (try dsimp only at hSw); first | (go_simp; done) | (go_simp; with_reducible rfl))
      try simp only [Act.put, List.setIfInBounds_toArray, List.set_cons_zero, List.set_cons_succ]
      refine wpAnyH_take (i := 8) (v := ?_) (by simp only [List.getElem?_toArray, List.getElem?_cons_succ, List.getElem?_cons_zero]; rfl) (by kernel_rfl) (by kernel_rfl) (by kernel_rfl) (by exact fun _ _ _ h => h) (Or.inl ⟨by rfl, ?_⟩) (by assumption) ?_; rotate_left; focus (intro w hSw; (try dsimp only at hSw); first | (go_simp; done) | (go_simp; with_reducible rfl))
      try simp only [Act.put, List.setIfInBounds_toArray, List.set_cons_zero, List.set_cons_succ]
      refine wpAnyH_take (i := 9) (v := ?_) (by simp only [List.getElem?_toArray, List.getElem?_cons_succ, List.getElem?_cons_zero]; rfl) (by kernel_rfl) (by kernel_rfl) (by kernel_rfl) (by exact fun _ _ _ h => h) (Or.inl ⟨by rfl, ?_⟩) (by assumption) ?_; rotate_left; focus (intro w hSw; (try dsimp only at hSw); first | (go_simp; done) | (go_simp; with_reducible rfl))
      try simp only [Act.put, List.setIfInBounds_toArray, List.set_cons_zero, List.set_cons_succ]
      refine wpAnyH_take (i := 10) (v := ?_) (by simp only [List.getElem?_toArray, List.getElem?_cons_succ, List.getElem?_cons_zero]; rfl) (by kernel_rfl) (by kernel_rfl) (by kernel_rfl) (by exact fun _ _ _ h => h) (Or.inl ⟨by rfl, ?_⟩) (by assumption) ?_; rotate_left; focus (intro w hSw; (try dsimp only at hSw); first | (go_simp; done) | (go_simp; with_reducible rfl))
      try simp only [Act.put, List.setIfInBounds_toArray, List.set_cons_zero, List.set_cons_succ]
      refine wpAnyH_take (i := 11) (v := ?_) (by simp only [List.getElem?_toArray, List.getElem?_cons_succ, List.getElem?_cons_zero]; rfl) (by kernel_rfl) (by kernel_rfl) (by kernel_rfl) (by exact fun _ _ _ h => h) (Or.inl ⟨by rfl, ?_⟩) (by assumption) ?_; rotate_left; focus (intro w hSw; (try dsimp only at hSw); first | (go_simp; done) | (go_simp; with_reducible rfl))
      try simp only [Act.put, List.setIfInBounds_toArray, List.set_cons_zero, List.set_cons_succ]
      refine wpAnyH_ready (rs := [12]) (by kernel_rfl) (by simp) ?_
      refine AllReadyH.cons rfl (fun K hK => ?_) AllReadyH.nil
      rw [if_pos (by rfl)]
      go_simp
      go_at_call 19
      have kB := hHeld.2.2.2.2.2.2.2.2.2.2.2.2
      refine (implIsOpenStart _ _ f _ _ d (k : Int) s t _ (RF12.out.below kB.out) (RC12.out.below kB.out) HNM.out HSW.out).mono ?_
      rw [HOP.out]
      rintro e wq12 ⟨rfl, hbk⟩
      have HBK := kB.out.trans (hbk.mono kB.out.size)
      have QS := Lib.hid (show wq12.cell? ⟨w1.heap.size, 0, none⟩ = some (.int .i64 f.mean) ∧ wq12.cell? ⟨w1.heap.size, 1, none⟩ = some (.slice FA0 f.parts.length fc0) ∧ wq12.cell? ⟨w1.heap.size, 2, none⟩ = some (.slice FA1 f.surges.length fc1) ∧ wq12.cell? ⟨w3.heap.size, 0, none⟩ = some (.slice A0 n0 k0) ∧ wq12.cell? ⟨w3.heap.size, 1, none⟩ = some (.slice (some ⟨g', o', none⟩) n1 k1) ∧ wq12.cell? ⟨w5.heap.size, 0, none⟩ = some (.string s.name) ∧ wq12.cell? ⟨w5.heap.size, 1, none⟩ = some (.int .i64 s.length) ∧ wq12.cell? ⟨w5.heap.size, 2, none⟩ = some (.int .i64 s.draught) ∧ wq12.cell? ⟨w5.heap.size, 3, none⟩ = some (.int .i64 s.line) ∧ wq12.cell? ⟨w5.heap.size, 4, none⟩ = some (.int .i64 s.tugs) ∧ wq12.cell? ⟨w5.heap.size, 5, none⟩ = some (.bool s.slow) ∧ wq12.cell? ⟨g', o' + k * 5 + 2, none⟩ = some (.int .i64 g.depth) ∧ Hid (Below w12.heap.size w12 wq12) from ⟨cell_onV FKF0.out HBK, cell_onV FKF1.out HBK, cell_onV FKF2.out HBK, cell_onV FKC0.out HBK, cell_onV FKC1.out HBK, cell_onV FKS0.out HBK, cell_onV FKS1.out HBK, cell_onV FKS2.out HBK, cell_onV FKS3.out HBK, cell_onV FKS4.out HBK, cell_onV FKS5.out HBK, cell_onV FD.out HBK, Lib.hid HBK⟩)
      clear hbk kB hHeld HBK
      go_simp
      refine hK.out _ _ ?_ (fun hHeld => ?_)
      · (try dsimp only); exact QS.out
      clear hK K
      try simp only [Act.put, List.setIfInBounds_toArray, List.set_cons_zero, List.set_cons_succ]
      refine wpAnyH_take (i := 13) (v := ?_) (by simp only [List.getElem?_toArray, List.getElem?_cons_succ, List.getElem?_cons_zero]; rfl) (by kernel_rfl) (by kernel_rfl) (by kernel_rfl) (by exact fun _ _ _ h => h) (Or.inl ⟨by rfl, ?_⟩) (by assumption) ?_; rotate_left; focus (intro w hSw; (try dsimp only at hSw); first | (go_simp; done) | (go_simp; with_reducible rfl))
      try simp only [Act.put, List.setIfInBounds_toArray, List.set_cons_zero, List.set_cons_succ]
      refine wpAnyH_take (i := 14) (v := ?_) (by simp only [List.getElem?_toArray, List.getElem?_cons_succ, List.getElem?_cons_zero]; rfl) (by kernel_rfl) (by kernel_rfl) (by kernel_rfl) (by exact fun _ _ _ h => h) (Or.inl ⟨by rfl, ?_⟩) (by assumption) ?_; rotate_left; focus (intro w hSw; (try dsimp only at hSw); first | (go_simp; done) | (go_simp; with_reducible rfl))
      try simp only [Act.put, List.setIfInBounds_toArray, List.set_cons_zero, List.set_cons_succ]
      refine wpAnyH_take (i := 15) (v := ?_) (by simp only [List.getElem?_toArray, List.getElem?_cons_succ, List.getElem?_cons_zero]; rfl) (by kernel_rfl) (by kernel_rfl) (by kernel_rfl) (by exact fun _ _ _ h => h) (Or.inl ⟨by rfl, ?_⟩) (by assumption) ?_; rotate_left; focus (intro w hSw; (try dsimp only at hSw); first | (go_simp; done) | (go_simp; with_reducible rfl))
      try simp only [Act.put, List.setIfInBounds_toArray, List.set_cons_zero, List.set_cons_succ]
      refine wpAnyH_take (i := 16) (v := ?_) (by simp only [List.getElem?_toArray, List.getElem?_cons_succ, List.getElem?_cons_zero]; rfl) (by kernel_rfl) (by kernel_rfl) (by kernel_rfl) (by exact fun _ _ _ h => h) (Or.inl ⟨by rfl, ?_⟩) (by assumption) ?_; rotate_left; focus (intro w hSw; (try dsimp only at hSw); first | (go_simp; done) | (go_simp; with_reducible rfl))
      try simp only [Act.put, List.setIfInBounds_toArray, List.set_cons_zero, List.set_cons_succ]
      refine wpAnyH_take (i := 17) (v := ?_) (by simp only [List.getElem?_toArray, List.getElem?_cons_succ, List.getElem?_cons_zero]; rfl) (by kernel_rfl) (by kernel_rfl) (by kernel_rfl) (by exact fun _ _ _ h => h) (Or.inl ⟨by rfl, ?_⟩) (by assumption) ?_; rotate_left; focus (intro w hSw; (try dsimp only at hSw); first | (go_simp; done) | (go_simp; with_reducible rfl))
      try simp only [Act.put, List.setIfInBounds_toArray, List.set_cons_zero, List.set_cons_succ]
      refine wpAnyH_take (i := 18) (v := ?_) (by simp only [List.getElem?_toArray, List.getElem?_cons_succ, List.getElem?_cons_zero]; rfl) (by kernel_rfl) (by kernel_rfl) (by kernel_rfl) (by exact fun _ _ _ h => h) (Or.inl ⟨by rfl, ?_⟩) (by assumption) ?_; rotate_left; focus (intro w hSw; (try dsimp only at hSw); first | (go_simp; done) | (go_simp; with_reducible rfl))
      try simp only [Act.put, List.setIfInBounds_toArray, List.set_cons_zero, List.set_cons_succ]
      refine wpAnyH_take (i := 19) (v := ?_) (by simp only [List.getElem?_toArray, List.getElem?_cons_succ, List.getElem?_cons_zero]; rfl) (by kernel_rfl) (by kernel_rfl) (by kernel_rfl) (by exact fun _ _ _ h => h) (Or.inl ⟨by rfl, ?_⟩) (by assumption) ?_; rotate_left; focus (intro w hSw; (try dsimp only at hSw); first | (go_simp; done) | (go_simp; with_reducible rfl))
      try simp only [Act.put, List.setIfInBounds_toArray, List.set_cons_zero, List.set_cons_succ]
      refine wpAnyH_take (i := 20) (v := ?_) (by simp only [List.getElem?_toArray, List.getElem?_cons_succ, List.getElem?_cons_zero]; rfl) (by kernel_rfl) (by kernel_rfl) (by kernel_rfl) (by exact fun _ _ _ h => h) (Or.inl ⟨by rfl, ?_⟩) (by assumption) ?_; rotate_left; focus (intro w hSw; (try dsimp only at hSw); first | (go_simp; done) | (go_simp; with_reducible rfl))
      try simp only [Act.put, List.setIfInBounds_toArray, List.set_cons_zero, List.set_cons_succ]
      refine wpAnyH_take (i := 21) (v := ?_) (by simp only [List.getElem?_toArray, List.getElem?_cons_succ, List.getElem?_cons_zero]; rfl) (by kernel_rfl) (by kernel_rfl) (by kernel_rfl) (by exact fun _ _ _ h => h) (Or.inl ⟨by rfl, ?_⟩) (by assumption) ?_; rotate_left; focus (intro w hSw; (try dsimp only at hSw); first | (go_simp; done) | (go_simp; with_reducible rfl))
      try simp only [Act.put, List.setIfInBounds_toArray, List.set_cons_zero, List.set_cons_succ]
      refine wpAnyH_take (i := 22) (v := ?_) (by simp only [List.getElem?_toArray, List.getElem?_cons_succ, List.getElem?_cons_zero]; rfl) (by kernel_rfl) (by kernel_rfl) (by kernel_rfl) (by exact fun _ _ _ h => h) (Or.inl ⟨by rfl, ?_⟩) (by assumption) ?_; rotate_left; focus (intro w hSw; (try dsimp only at hSw); first | (go_simp; done) | (go_simp; with_reducible rfl))
      try simp only [Act.put, List.setIfInBounds_toArray, List.set_cons_zero, List.set_cons_succ]
      refine wpAnyH_take (i := 23) (v := ?_) (by simp only [List.getElem?_toArray, List.getElem?_cons_succ, List.getElem?_cons_zero]; rfl) (by kernel_rfl) (by kernel_rfl) (by kernel_rfl) (by exact fun _ _ _ h => h) (Or.inl ⟨by rfl, ?_⟩) (by assumption) ?_; rotate_left; focus (intro w hSw; (try dsimp only at hSw); first | (go_simp; done) | (go_simp; with_reducible rfl))
      try simp only [Act.put, List.setIfInBounds_toArray, List.set_cons_zero, List.set_cons_succ]
      refine wpAnyH_take (i := 24) (v := ?_) (by simp only [List.getElem?_toArray, List.getElem?_cons_succ, List.getElem?_cons_zero]; rfl) (by kernel_rfl) (by kernel_rfl) (by kernel_rfl) (by exact fun _ _ _ h => h) (Or.inl ⟨by rfl, ?_⟩) (by assumption) ?_; rotate_left; focus (intro w hSw; (try dsimp only at hSw); first | (go_simp; done) | (go_simp; with_reducible rfl))
      try simp only [Act.put, List.setIfInBounds_toArray, List.set_cons_zero, List.set_cons_succ]
      refine wpAnyH_take (i := 25) (v := ?_) (by simp only [List.getElem?_toArray, List.getElem?_cons_succ, List.getElem?_cons_zero]; rfl) (by kernel_rfl) (by kernel_rfl) (by kernel_rfl) (by exact fun _ _ _ h => h) (Or.inl ⟨by rfl, ?_⟩) (by assumption) ?_; rotate_left; focus (intro w hSw; (try dsimp only at hSw); first | (go_simp; done) | (go_simp; with_reducible rfl))
      try simp only [Act.put, List.setIfInBounds_toArray, List.set_cons_zero, List.set_cons_succ]
      refine wpAnyH_take (i := 26) (v := ?_) (by simp only [List.getElem?_toArray, List.getElem?_cons_succ, List.getElem?_cons_zero]; rfl) (by kernel_rfl) (by kernel_rfl) (by kernel_rfl) (by exact fun _ _ _ h => h) (Or.inl ⟨by rfl, ?_⟩) (by assumption) ?_; rotate_left; focus (intro w hSw; (try dsimp only at hSw); first | (go_simp; done) | (go_simp; with_reducible rfl))
      try simp only [Act.put, List.setIfInBounds_toArray, List.set_cons_zero, List.set_cons_succ]
      refine wpAnyH_take (i := 27) (v := ?_) (by simp only [List.getElem?_toArray, List.getElem?_cons_succ, List.getElem?_cons_zero]; rfl) (by kernel_rfl) (by kernel_rfl) (by kernel_rfl) (by exact fun _ _ _ h => h) (Or.inl ⟨by rfl, ?_⟩) (by assumption) ?_; rotate_left; focus (intro w hSw; (try dsimp only at hSw); first | (go_simp; done) | (go_simp; with_reducible rfl))
      try simp only [Act.put, List.setIfInBounds_toArray, List.set_cons_zero, List.set_cons_succ]
      refine wpAnyH_take (i := 30) (v := ?_) (by simp only [List.getElem?_toArray, List.getElem?_cons_succ, List.getElem?_cons_zero]; rfl) (by kernel_rfl) (by kernel_rfl) (by kernel_rfl) (by exact fun _ _ _ h => h) (Or.inl ⟨by rfl, ?_⟩) (by assumption) ?_; rotate_left; focus (intro w hSw; (try dsimp only at hSw); first | (go_simp; done) | (go_simp; with_reducible rfl))
      try simp only [Act.put, List.setIfInBounds_toArray, List.set_cons_zero, List.set_cons_succ]
      refine wpAnyH_take (i := 31) (v := ?_) (by simp only [List.getElem?_toArray, List.getElem?_cons_succ, List.getElem?_cons_zero]; rfl) (by kernel_rfl) (by kernel_rfl) (by kernel_rfl) (by exact fun _ _ _ h => h) (Or.inl ⟨by rfl, ?_⟩) (by assumption) ?_; rotate_left; focus (intro w hSw; (try dsimp only at hSw); first | (go_simp; done) | (go_simp; with_reducible rfl))
      try simp only [Act.put, List.setIfInBounds_toArray, List.set_cons_zero, List.set_cons_succ]
      refine wpAnyH_take (i := 32) (v := ?_) (by simp only [List.getElem?_toArray, List.getElem?_cons_succ, List.getElem?_cons_zero]; rfl) (by kernel_rfl) (by kernel_rfl) (by kernel_rfl) (by exact fun _ _ _ h => h) (Or.inl ⟨by rfl, ?_⟩) (by assumption) ?_; rotate_left; focus (intro w hSw; (try dsimp only at hSw); first | (go_simp; done) | (go_simp; with_reducible rfl))
      try simp only [Act.put, List.setIfInBounds_toArray, List.set_cons_zero, List.set_cons_succ]
      refine wpAnyH_take (i := 33) (v := ?_) (by simp only [List.getElem?_toArray, List.getElem?_cons_succ, List.getElem?_cons_zero]; rfl) (by kernel_rfl) (by kernel_rfl) (by kernel_rfl) (by exact fun _ _ _ h => h) (Or.inl ⟨by rfl, ?_⟩) (by assumption) ?_; rotate_left; focus (intro w hSw; (try dsimp only at hSw); first | (go_simp; done) | (go_simp; with_reducible rfl))
      try simp only [Act.put, List.setIfInBounds_toArray, List.set_cons_zero, List.set_cons_succ]
      refine wpAnyH_ready (rs := [28]) (by kernel_rfl) (by simp) ?_
      refine AllReadyH.cons rfl (fun K hK => ?_) AllReadyH.nil
      rw [if_pos (by rfl)]
      go_simp
      go_at_call 21
      have kB := hHeld.2.2.2.2.2.2.2.2.2.2.2.2
      refine (implSureStarts _ _ f _ _ d (k : Int) s _ (RF12.out.below kB.out) (RC12.out.below kB.out) HNM.out HSW.out).mono ?_
      rw [HL1.out]
      rintro e wq28 ⟨v1, rfl, ho, hbk⟩
      have hl := HE1.out
      have SW1 := Lib.hid (own_sl windowLen ho (by omega))
      obtain ⟨AW1, cw1, rfl⟩ := own_form ho
      clear ho hl
      have HBK := kB.out.trans (hbk.mono kB.out.size)
      have QS := Lib.hid (show wq28.cell? ⟨w1.heap.size, 0, none⟩ = some (.int .i64 f.mean) ∧ wq28.cell? ⟨w1.heap.size, 1, none⟩ = some (.slice FA0 f.parts.length fc0) ∧ wq28.cell? ⟨w1.heap.size, 2, none⟩ = some (.slice FA1 f.surges.length fc1) ∧ wq28.cell? ⟨w3.heap.size, 0, none⟩ = some (.slice A0 n0 k0) ∧ wq28.cell? ⟨w3.heap.size, 1, none⟩ = some (.slice (some ⟨g', o', none⟩) n1 k1) ∧ wq28.cell? ⟨w5.heap.size, 0, none⟩ = some (.string s.name) ∧ wq28.cell? ⟨w5.heap.size, 1, none⟩ = some (.int .i64 s.length) ∧ wq28.cell? ⟨w5.heap.size, 2, none⟩ = some (.int .i64 s.draught) ∧ wq28.cell? ⟨w5.heap.size, 3, none⟩ = some (.int .i64 s.line) ∧ wq28.cell? ⟨w5.heap.size, 4, none⟩ = some (.int .i64 s.tugs) ∧ wq28.cell? ⟨w5.heap.size, 5, none⟩ = some (.bool s.slow) ∧ wq28.cell? ⟨g', o' + k * 5 + 2, none⟩ = some (.int .i64 g.depth) ∧ Hid (Below w12.heap.size w12 wq28) from ⟨cell_onV FKF0.out HBK, cell_onV FKF1.out HBK, cell_onV FKF2.out HBK, cell_onV FKC0.out HBK, cell_onV FKC1.out HBK, cell_onV FKS0.out HBK, cell_onV FKS1.out HBK, cell_onV FKS2.out HBK, cell_onV FKS3.out HBK, cell_onV FKS4.out HBK, cell_onV FKS5.out HBK, cell_onV FD.out HBK, Lib.hid HBK⟩)
      clear hbk kB hHeld HBK
      go_simp
      refine hK.out _ _ ?_ (fun hHeld => ?_)
      · (try dsimp only); exact QS.out
      clear hK K
      try simp only [Act.put, List.setIfInBounds_toArray, List.set_cons_zero, List.set_cons_succ]
      refine wpAnyH_ready (rs := [29]) (by kernel_rfl) (by simp) ?_
      refine AllReadyH.cons rfl (fun K hK => ?_) AllReadyH.nil
      rw [if_pos (by rfl)]
      go_simp
      go_at_call 20
      have kB := hHeld.2.2.2.2.2.2.2.2.2.2.2.2
      refine (implCountMinutes _ L1 _ SW1.out).mono ?_
      rw [HC1.out]
      rintro e wq29 ⟨rfl, hbk⟩
      have HBK := kB.out.trans (hbk.mono kB.out.size)
      have QS := Lib.hid (show wq29.cell? ⟨w1.heap.size, 0, none⟩ = some (.int .i64 f.mean) ∧ wq29.cell? ⟨w1.heap.size, 1, none⟩ = some (.slice FA0 f.parts.length fc0) ∧ wq29.cell? ⟨w1.heap.size, 2, none⟩ = some (.slice FA1 f.surges.length fc1) ∧ wq29.cell? ⟨w3.heap.size, 0, none⟩ = some (.slice A0 n0 k0) ∧ wq29.cell? ⟨w3.heap.size, 1, none⟩ = some (.slice (some ⟨g', o', none⟩) n1 k1) ∧ wq29.cell? ⟨w5.heap.size, 0, none⟩ = some (.string s.name) ∧ wq29.cell? ⟨w5.heap.size, 1, none⟩ = some (.int .i64 s.length) ∧ wq29.cell? ⟨w5.heap.size, 2, none⟩ = some (.int .i64 s.draught) ∧ wq29.cell? ⟨w5.heap.size, 3, none⟩ = some (.int .i64 s.line) ∧ wq29.cell? ⟨w5.heap.size, 4, none⟩ = some (.int .i64 s.tugs) ∧ wq29.cell? ⟨w5.heap.size, 5, none⟩ = some (.bool s.slow) ∧ wq29.cell? ⟨g', o' + k * 5 + 2, none⟩ = some (.int .i64 g.depth) ∧ Hid (Below w12.heap.size w12 wq29) from ⟨cell_onV FKF0.out HBK, cell_onV FKF1.out HBK, cell_onV FKF2.out HBK, cell_onV FKC0.out HBK, cell_onV FKC1.out HBK, cell_onV FKS0.out HBK, cell_onV FKS1.out HBK, cell_onV FKS2.out HBK, cell_onV FKS3.out HBK, cell_onV FKS4.out HBK, cell_onV FKS5.out HBK, cell_onV FD.out HBK, Lib.hid HBK⟩)
      clear hbk kB hHeld HBK
      go_simp
      refine hK.out _ _ ?_ (fun hHeld => ?_)
      · (try dsimp only); exact QS.out
      clear hK K
      try simp only [Act.put, List.setIfInBounds_toArray, List.set_cons_zero, List.set_cons_succ]
      refine wpAnyH_ready (rs := [34]) (by kernel_rfl) (by simp) ?_
      refine AllReadyH.cons rfl (fun K hK => ?_) AllReadyH.nil
      rw [if_pos (by rfl)]
      go_simp
      go_at_call 22
      have kB := hHeld.2.2.2.2.2.2.2.2.2.2.2.2
      refine (implOpenStarts _ _ f _ _ d (k : Int) s _ (RF12.out.below kB.out) (RC12.out.below kB.out) HNM.out HSW.out).mono ?_
      rw [HL2.out]
      rintro e wq34 ⟨v2, rfl, ho, hbk⟩
      have hl := HE2.out
      have SW2 := Lib.hid (own_sl windowLen ho (by omega))
      obtain ⟨AW2, cw2, rfl⟩ := own_form ho
      clear ho hl
      have HBK := kB.out.trans (hbk.mono kB.out.size)
      have QS := Lib.hid (show wq34.cell? ⟨w1.heap.size, 0, none⟩ = some (.int .i64 f.mean) ∧ wq34.cell? ⟨w1.heap.size, 1, none⟩ = some (.slice FA0 f.parts.length fc0) ∧ wq34.cell? ⟨w1.heap.size, 2, none⟩ = some (.slice FA1 f.surges.length fc1) ∧ wq34.cell? ⟨w3.heap.size, 0, none⟩ = some (.slice A0 n0 k0) ∧ wq34.cell? ⟨w3.heap.size, 1, none⟩ = some (.slice (some ⟨g', o', none⟩) n1 k1) ∧ wq34.cell? ⟨w5.heap.size, 0, none⟩ = some (.string s.name) ∧ wq34.cell? ⟨w5.heap.size, 1, none⟩ = some (.int .i64 s.length) ∧ wq34.cell? ⟨w5.heap.size, 2, none⟩ = some (.int .i64 s.draught) ∧ wq34.cell? ⟨w5.heap.size, 3, none⟩ = some (.int .i64 s.line) ∧ wq34.cell? ⟨w5.heap.size, 4, none⟩ = some (.int .i64 s.tugs) ∧ wq34.cell? ⟨w5.heap.size, 5, none⟩ = some (.bool s.slow) ∧ wq34.cell? ⟨g', o' + k * 5 + 2, none⟩ = some (.int .i64 g.depth) ∧ Hid (Below w12.heap.size w12 wq34) from ⟨cell_onV FKF0.out HBK, cell_onV FKF1.out HBK, cell_onV FKF2.out HBK, cell_onV FKC0.out HBK, cell_onV FKC1.out HBK, cell_onV FKS0.out HBK, cell_onV FKS1.out HBK, cell_onV FKS2.out HBK, cell_onV FKS3.out HBK, cell_onV FKS4.out HBK, cell_onV FKS5.out HBK, cell_onV FD.out HBK, Lib.hid HBK⟩)
      clear hbk kB hHeld HBK
      go_simp
      refine hK.out _ _ ?_ (fun hHeld => ?_)
      · (try dsimp only); exact QS.out
      clear hK K
      try simp only [Act.put, List.setIfInBounds_toArray, List.set_cons_zero, List.set_cons_succ]
      refine wpAnyH_ready (rs := [35]) (by kernel_rfl) (by simp) ?_
      refine AllReadyH.cons rfl (fun K hK => ?_) AllReadyH.nil
      rw [if_pos (by rfl)]
      go_simp
      go_at_call 20
      have kB := hHeld.2.2.2.2.2.2.2.2.2.2.2.2
      refine (implCountMinutes _ L2 _ SW2.out).mono ?_
      rw [HC2.out]
      rintro e wq35 ⟨rfl, hbk⟩
      have HBK := kB.out.trans (hbk.mono kB.out.size)
      have QS := Lib.hid (show wq35.cell? ⟨w1.heap.size, 0, none⟩ = some (.int .i64 f.mean) ∧ wq35.cell? ⟨w1.heap.size, 1, none⟩ = some (.slice FA0 f.parts.length fc0) ∧ wq35.cell? ⟨w1.heap.size, 2, none⟩ = some (.slice FA1 f.surges.length fc1) ∧ wq35.cell? ⟨w3.heap.size, 0, none⟩ = some (.slice A0 n0 k0) ∧ wq35.cell? ⟨w3.heap.size, 1, none⟩ = some (.slice (some ⟨g', o', none⟩) n1 k1) ∧ wq35.cell? ⟨w5.heap.size, 0, none⟩ = some (.string s.name) ∧ wq35.cell? ⟨w5.heap.size, 1, none⟩ = some (.int .i64 s.length) ∧ wq35.cell? ⟨w5.heap.size, 2, none⟩ = some (.int .i64 s.draught) ∧ wq35.cell? ⟨w5.heap.size, 3, none⟩ = some (.int .i64 s.line) ∧ wq35.cell? ⟨w5.heap.size, 4, none⟩ = some (.int .i64 s.tugs) ∧ wq35.cell? ⟨w5.heap.size, 5, none⟩ = some (.bool s.slow) ∧ wq35.cell? ⟨g', o' + k * 5 + 2, none⟩ = some (.int .i64 g.depth) ∧ Hid (Below w12.heap.size w12 wq35) from ⟨cell_onV FKF0.out HBK, cell_onV FKF1.out HBK, cell_onV FKF2.out HBK, cell_onV FKC0.out HBK, cell_onV FKC1.out HBK, cell_onV FKS0.out HBK, cell_onV FKS1.out HBK, cell_onV FKS2.out HBK, cell_onV FKS3.out HBK, cell_onV FKS4.out HBK, cell_onV FKS5.out HBK, cell_onV FD.out HBK, Lib.hid HBK⟩)
      clear hbk kB hHeld HBK
      go_simp
      refine hK.out _ _ ?_ (fun hHeld => ?_)
      · (try dsimp only); exact QS.out
      clear hK K
      try simp only [Act.put, List.setIfInBounds_toArray, List.set_cons_zero, List.set_cons_succ]
      refine wpAnyH_take (i := 36) (v := ?_) (by simp only [List.getElem?_toArray, List.getElem?_cons_succ, List.getElem?_cons_zero]; rfl) (by kernel_rfl) (by kernel_rfl) (by kernel_rfl) (by exact fun _ _ _ h => h) (Or.inl ⟨by rfl, ?_⟩) (by assumption) ?_; rotate_left; focus (intro w hSw; (try dsimp only at hSw); first | (go_simp; done) | (go_simp; with_reducible rfl))
      try simp only [Act.put, List.setIfInBounds_toArray, List.set_cons_zero, List.set_cons_succ]
      refine wpAnyH_take (i := 37) (v := ?_) (by simp only [List.getElem?_toArray, List.getElem?_cons_succ, List.getElem?_cons_zero]; rfl) (by kernel_rfl) (by kernel_rfl) (by kernel_rfl) (by exact fun _ _ _ h => h) (Or.inl ⟨by rfl, ?_⟩) (by assumption) ?_; rotate_left; focus (intro w hSw; (try dsimp only at hSw); first | (go_simp; done) | (go_simp; with_reducible rfl))
      try simp only [Act.put, List.setIfInBounds_toArray, List.set_cons_zero, List.set_cons_succ]
      refine wpAnyH_take (i := 38) (v := ?_) (by simp only [List.getElem?_toArray, List.getElem?_cons_succ, List.getElem?_cons_zero]; rfl) (by kernel_rfl) (by kernel_rfl) (by kernel_rfl) (by exact fun _ _ _ h => h) (Or.inl ⟨by rfl, ?_⟩) (by assumption) ?_; rotate_left; focus (intro w hSw; (try dsimp only at hSw); first | (go_simp; done) | (go_simp; with_reducible rfl))
      try simp only [Act.put, List.setIfInBounds_toArray, List.set_cons_zero, List.set_cons_succ]
      refine wpAnyH_take (i := 39) (v := ?_) (by simp only [List.getElem?_toArray, List.getElem?_cons_succ, List.getElem?_cons_zero]; rfl) (by kernel_rfl) (by kernel_rfl) (by kernel_rfl) (by exact fun _ _ _ h => h) (Or.inl ⟨by rfl, ?_⟩) (by assumption) ?_; rotate_left; focus (intro w hSw; (try dsimp only at hSw); first | (go_simp; done) | (go_simp; with_reducible rfl))
      try simp only [Act.put, List.setIfInBounds_toArray, List.set_cons_zero, List.set_cons_succ]
      refine wpAnyH_take (i := 40) (v := ?_) (by simp only [List.getElem?_toArray, List.getElem?_cons_succ, List.getElem?_cons_zero]; rfl) (by kernel_rfl) (by kernel_rfl) (by kernel_rfl) (by exact fun _ _ _ h => h) (Or.inl ⟨by rfl, ?_⟩) (by assumption) ?_; rotate_left; focus (intro w hSw; (try dsimp only at hSw); first | (go_simp; done) | (go_simp; with_reducible rfl))
      try simp only [Act.put, List.setIfInBounds_toArray, List.set_cons_zero, List.set_cons_succ]
      refine wpAnyH_take (i := 41) (v := ?_) (by simp only [List.getElem?_toArray, List.getElem?_cons_succ, List.getElem?_cons_zero]; rfl) (by kernel_rfl) (by kernel_rfl) (by kernel_rfl) (by exact fun _ _ _ h => h) (Or.inl ⟨by rfl, ?_⟩) (by assumption) ?_; rotate_left; focus (intro w hSw; (try dsimp only at hSw); first | (go_simp; done) | (go_simp; with_reducible rfl))
      try simp only [Act.put, List.setIfInBounds_toArray, List.set_cons_zero, List.set_cons_succ]
      refine wpAnyH_take (i := 43) (v := ?_) (by simp only [List.getElem?_toArray, List.getElem?_cons_succ, List.getElem?_cons_zero]; rfl) (by kernel_rfl) (by kernel_rfl) (by kernel_rfl) (by exact fun _ _ _ h => h) (Or.inl ⟨by rfl, ?_⟩) (by assumption) ?_; rotate_left; focus (intro w hSw; (try dsimp only at hSw); first | (go_simp; done) | (go_simp; with_reducible rfl))
      try simp only [Act.put, List.setIfInBounds_toArray, List.set_cons_zero, List.set_cons_succ]
      refine wpAnyH_take (i := 45) (v := ?_) (by simp only [List.getElem?_toArray, List.getElem?_cons_succ, List.getElem?_cons_zero]; rfl) (by kernel_rfl) (by kernel_rfl) (by kernel_rfl) (by exact fun _ _ _ h => h) (Or.inl ⟨by rfl, ?_⟩) (by assumption) ?_; rotate_left; focus (intro w hSw; (try dsimp only at hSw); first | (go_simp; done) | (go_simp; with_reducible rfl))
      try simp only [Act.put, List.setIfInBounds_toArray, List.set_cons_zero, List.set_cons_succ]
      refine wpAnyH_take (i := 46) (v := ?_) (by simp only [List.getElem?_toArray, List.getElem?_cons_succ, List.getElem?_cons_zero]; rfl) (by kernel_rfl) (by kernel_rfl) (by kernel_rfl) (by exact fun _ _ _ h => h) (Or.inl ⟨by rfl, ?_⟩) (by assumption) ?_; rotate_left; focus (intro w hSw; (try dsimp only at hSw); first | (go_simp; done) | (go_simp; with_reducible rfl))
      try simp only [Act.put, List.setIfInBounds_toArray, List.set_cons_zero, List.set_cons_succ]
      refine wpAnyH_take (i := 47) (v := ?_) (by simp only [List.getElem?_toArray, List.getElem?_cons_succ, List.getElem?_cons_zero]; rfl) (by kernel_rfl) (by kernel_rfl) (by kernel_rfl) (by exact fun _ _ _ h => h) (Or.inl ⟨by rfl, ?_⟩) (by assumption) ?_; rotate_left; focus (intro w hSw; (try dsimp only at hSw); first | (go_simp; done) | (go_simp; with_reducible rfl))
      try simp only [Act.put, List.setIfInBounds_toArray, List.set_cons_zero, List.set_cons_succ]
      refine wpAnyH_take (i := 48) (v := ?_) (by simp only [List.getElem?_toArray, List.getElem?_cons_succ, List.getElem?_cons_zero]; rfl) (by kernel_rfl) (by kernel_rfl) (by kernel_rfl) (by exact fun _ _ _ h => h) (Or.inl ⟨by rfl, ?_⟩) (by assumption) ?_; rotate_left; focus (intro w hSw; (try dsimp only at hSw); first | (go_simp; done) | (go_simp; with_reducible rfl))
      try simp only [Act.put, List.setIfInBounds_toArray, List.set_cons_zero, List.set_cons_succ]
      refine wpAnyH_take (i := 49) (v := ?_) (by simp only [List.getElem?_toArray, List.getElem?_cons_succ, List.getElem?_cons_zero]; rfl) (by kernel_rfl) (by kernel_rfl) (by kernel_rfl) (by exact fun _ _ _ h => h) (Or.inl ⟨by rfl, ?_⟩) (by assumption) ?_; rotate_left; focus (intro w hSw; (try dsimp only at hSw); first | (go_simp; done) | (go_simp; with_reducible rfl))
      try simp only [Act.put, List.setIfInBounds_toArray, List.set_cons_zero, List.set_cons_succ]
      refine wpAnyH_take (i := 50) (v := ?_) (by simp only [List.getElem?_toArray, List.getElem?_cons_succ, List.getElem?_cons_zero]; rfl) (by kernel_rfl) (by kernel_rfl) (by kernel_rfl) (by exact fun _ _ _ h => h) (Or.inl ⟨by rfl, ?_⟩) (by assumption) ?_; rotate_left; focus (intro w hSw; (try dsimp only at hSw); first | (go_simp; done) | (go_simp; with_reducible rfl))
      try simp only [Act.put, List.setIfInBounds_toArray, List.set_cons_zero, List.set_cons_succ]
      refine wpAnyH_ready (rs := [42]) (by kernel_rfl) (by simp) ?_
      refine AllReadyH.cons rfl (fun K hK => ?_) AllReadyH.nil
      rw [if_pos (by rfl)]
      go_simp
      go_at_call 23
      have kB := hHeld.2.2.2.2.2.2.2.2.2.2.2.2
      refine (implLevelFor _ _ d (k : Int) s _ (RC12.out.below kB.out) HNM.out HSW.out).mono ?_
      rw [HLV.out]
      rintro e wq42 ⟨rfl, hbk⟩
      have HBK := kB.out.trans (hbk.mono kB.out.size)
      have QS := Lib.hid (show wq42.cell? ⟨w1.heap.size, 0, none⟩ = some (.int .i64 f.mean) ∧ wq42.cell? ⟨w1.heap.size, 1, none⟩ = some (.slice FA0 f.parts.length fc0) ∧ wq42.cell? ⟨w1.heap.size, 2, none⟩ = some (.slice FA1 f.surges.length fc1) ∧ wq42.cell? ⟨w3.heap.size, 0, none⟩ = some (.slice A0 n0 k0) ∧ wq42.cell? ⟨w3.heap.size, 1, none⟩ = some (.slice (some ⟨g', o', none⟩) n1 k1) ∧ wq42.cell? ⟨w5.heap.size, 0, none⟩ = some (.string s.name) ∧ wq42.cell? ⟨w5.heap.size, 1, none⟩ = some (.int .i64 s.length) ∧ wq42.cell? ⟨w5.heap.size, 2, none⟩ = some (.int .i64 s.draught) ∧ wq42.cell? ⟨w5.heap.size, 3, none⟩ = some (.int .i64 s.line) ∧ wq42.cell? ⟨w5.heap.size, 4, none⟩ = some (.int .i64 s.tugs) ∧ wq42.cell? ⟨w5.heap.size, 5, none⟩ = some (.bool s.slow) ∧ wq42.cell? ⟨g', o' + k * 5 + 2, none⟩ = some (.int .i64 g.depth) ∧ Hid (Below w12.heap.size w12 wq42) from ⟨cell_onV FKF0.out HBK, cell_onV FKF1.out HBK, cell_onV FKF2.out HBK, cell_onV FKC0.out HBK, cell_onV FKC1.out HBK, cell_onV FKS0.out HBK, cell_onV FKS1.out HBK, cell_onV FKS2.out HBK, cell_onV FKS3.out HBK, cell_onV FKS4.out HBK, cell_onV FKS5.out HBK, cell_onV FD.out HBK, Lib.hid HBK⟩)
      clear hbk kB hHeld HBK
      go_simp
      refine hK.out _ _ ?_ (fun hHeld => ?_)
      · (try dsimp only); exact QS.out
      clear hK K
      try simp only [Act.put, List.setIfInBounds_toArray, List.set_cons_zero, List.set_cons_succ]
      refine wpAnyH_ready (rs := [44]) (by kernel_rfl) (by simp) ?_
      refine AllReadyH.cons rfl (fun K hK => ?_) AllReadyH.nil
      rw [if_pos (by rfl)]
      go_simp
      go_at_call 13
      have kB := hHeld.2.2.2.2.2.2.2.2.2.2.2.2
      refine (implNeedOf s _ HSW.out).mono ?_
      rw [HN2.out]
      rintro e wq44 ⟨rfl, hbk⟩
      have HBK := kB.out.trans (hbk.mono kB.out.size)
      have QS := Lib.hid (show wq44.cell? ⟨w1.heap.size, 0, none⟩ = some (.int .i64 f.mean) ∧ wq44.cell? ⟨w1.heap.size, 1, none⟩ = some (.slice FA0 f.parts.length fc0) ∧ wq44.cell? ⟨w1.heap.size, 2, none⟩ = some (.slice FA1 f.surges.length fc1) ∧ wq44.cell? ⟨w3.heap.size, 0, none⟩ = some (.slice A0 n0 k0) ∧ wq44.cell? ⟨w3.heap.size, 1, none⟩ = some (.slice (some ⟨g', o', none⟩) n1 k1) ∧ wq44.cell? ⟨w5.heap.size, 0, none⟩ = some (.string s.name) ∧ wq44.cell? ⟨w5.heap.size, 1, none⟩ = some (.int .i64 s.length) ∧ wq44.cell? ⟨w5.heap.size, 2, none⟩ = some (.int .i64 s.draught) ∧ wq44.cell? ⟨w5.heap.size, 3, none⟩ = some (.int .i64 s.line) ∧ wq44.cell? ⟨w5.heap.size, 4, none⟩ = some (.int .i64 s.tugs) ∧ wq44.cell? ⟨w5.heap.size, 5, none⟩ = some (.bool s.slow) ∧ wq44.cell? ⟨g', o' + k * 5 + 2, none⟩ = some (.int .i64 g.depth) ∧ Hid (Below w12.heap.size w12 wq44) from ⟨cell_onV FKF0.out HBK, cell_onV FKF1.out HBK, cell_onV FKF2.out HBK, cell_onV FKC0.out HBK, cell_onV FKC1.out HBK, cell_onV FKS0.out HBK, cell_onV FKS1.out HBK, cell_onV FKS2.out HBK, cell_onV FKS3.out HBK, cell_onV FKS4.out HBK, cell_onV FKS5.out HBK, cell_onV FD.out HBK, Lib.hid HBK⟩)
      clear hbk kB hHeld HBK
      go_simp
      refine hK.out _ _ ?_ (fun hHeld => ?_)
      · (try dsimp only); exact QS.out
      clear hK K
      try simp only [Act.put, List.setIfInBounds_toArray, List.set_cons_zero, List.set_cons_succ]
      refine wpAnyH_take (i := 51) (v := ?_) (by simp only [List.getElem?_toArray, List.getElem?_cons_succ, List.getElem?_cons_zero]; rfl) (by kernel_rfl) (by kernel_rfl) (by kernel_rfl) (by exact fun _ _ _ h => h) (Or.inl ⟨by rfl, ?_⟩) (by assumption) ?_; rotate_left; focus (intro w hSw; (try dsimp only at hSw); first | (go_simp; done) | (go_simp; with_reducible rfl))
      try simp only [Act.put, List.setIfInBounds_toArray, List.set_cons_zero, List.set_cons_succ]
      refine wpAnyH_take (i := 52) (v := ?_) (by simp only [List.getElem?_toArray, List.getElem?_cons_succ, List.getElem?_cons_zero]; rfl) (by kernel_rfl) (by kernel_rfl) (by kernel_rfl) (by exact fun _ _ _ h => h) (Or.inl ⟨by rfl, ?_⟩) (by assumption) ?_; rotate_left; focus (intro w hSw; (try dsimp only at hSw); first | (go_simp; done) | (go_simp; with_reducible rfl))
      try simp only [Act.put, List.setIfInBounds_toArray, List.set_cons_zero, List.set_cons_succ]
      refine wpAnyH_take (i := 53) (v := ?_) (by simp only [List.getElem?_toArray, List.getElem?_cons_succ, List.getElem?_cons_zero]; rfl) (by kernel_rfl) (by kernel_rfl) (by kernel_rfl) (by exact fun _ _ _ h => h) (Or.inl ⟨by rfl, ?_⟩) (by assumption) ?_; rotate_left; focus (intro w hSw; (try dsimp only at hSw); first | (go_simp; done) | (go_simp; with_reducible rfl))
      try simp only [Act.put, List.setIfInBounds_toArray, List.set_cons_zero, List.set_cons_succ]
      refine wpAnyH_take (i := 54) (v := ?_) (by simp only [List.getElem?_toArray, List.getElem?_cons_succ, List.getElem?_cons_zero]; rfl) (by kernel_rfl) (by kernel_rfl) (by kernel_rfl) (by exact fun _ _ _ h => h) (Or.inl ⟨by rfl, ?_⟩) (by assumption) ?_; rotate_left; focus (intro w hSw; (try dsimp only at hSw); first | (go_simp; done) | (go_simp; with_reducible rfl))
      try simp only [Act.put, List.setIfInBounds_toArray, List.set_cons_zero, List.set_cons_succ]
      refine wpAnyH_done (by kernel_rfl) ?_ _
      go_wp2
      go_ret
      exact ⟨rfl, B12.out.trans (hHeld.2.2.2.2.2.2.2.2.2.2.2.2.out.mono B12.out.size)⟩
set_option maxRecDepth 100000 in
theorem lifted (os : Os) (started : os.Started) (H : Type) (enc : TypeId × Value → H) :
    ReturnsInHanded {} Try.checked os 3 .any (Rows.fnAfloatSpec.pre6 enc Try.prog Try.f3 Rows.fnAfloatRow.domain false) (Rows.fnAfloatSpec.post enc Try.prog Try.f3 false true false false) := by
  refine returnsInHanded_of_change (C := Try.checked) own started (by kernel_rfl) Try.func3
    (ChangeSpec.witness6 (enc := enc) (C := Try.checked) false ⟨#[], #[.slice none 0 0], []⟩ 8 (by kernel_rfl) (by kernel_rfl) (by kernel_rfl) (by kernel_rfl)) ?_
  intro W base args ds gs before hval0 hW _ _
  have hval : ∀ (j : Nat) t v, Try.f3.params[j]? = some t → args[j]? = some v → Value.okWide Try.prog W .any base t v := hval0
  have hW' := hW
  obtain ⟨p, q, hA0, hV, rfl, _, _⟩ := hW
  have hA : DataW.TrodAll enc Try.prog W 0 (fun _ => true) true Try.f3.params.toList args.toList ds p := hA0
  rw [Try.params3] at hA hval
  obtain ⟨v0, vs0, d0, ds0, p0, q0, hargs, rfl, rfl, h0, r0⟩ := trodAll_cons hA
  obtain ⟨rfl, rfl, rfl⟩ := trodAll_nil r0
  obtain rfl : args = #[v0] := by cases args; simp_all
  obtain ⟨A0, n0, c0, rfl, g0⟩ := open_code_arg (hval 0 22 v0 rfl rfl) h0
  refine (law A0 n0 c0 W g0).mono fun e W' ⟨he, hb⟩ => ⟨_, he, ?_⟩
  exact law_post laidOut (by kernel_rfl) rfl (by kernel_rfl) Try.underlying4 rfl rfl rfl hW' hb
theorem holds : Rows.FnAfloatSaid :=
  OpenClaim.holds_of_wide 3 Try.f3 rfl rfl rfl rfl rfl rfl rfl ⟨rfl, rfl, rfl, rfl, rfl⟩ rfl rfl rfl rfl rfl (by kernel_rfl) Try.func3 (by kernel_rfl)
    (of_decide_eq_true (by kernel_rfl)) (by unfold Func.isWrapper; first | (rw [if_pos (by decide +kernel)]; kernel_rfl) | (rw [if_neg (by decide +kernel)]; exact ⟨rfl, rfl⟩))
    (fun os started H enc _ => lifted os started H enc)
end Go.Proofs.Ytpimcbhjkednpaa.lawAfloat
