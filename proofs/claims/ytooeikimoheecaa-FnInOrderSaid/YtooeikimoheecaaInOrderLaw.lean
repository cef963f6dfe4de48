
/- FnInOrder holds for every code: a ship that starts later does not arrive earlier. No condition. -/
import Derived.Test.YtooeikimoheecaaRows
import Derived.Test.YtooeikimoheecaaIo2
import Derived.Test.YtooeikimoheecaaIo0
import Derived.Test.YtooeikimoheecaaIo30
import Derived.Test.YtooeikimoheecaaIo28
import Derived.Test.YtooeikimoheecaaIo42
import Derived.Test.YtooeikimoheecaaIo37
import Derived.Test.YtooeikimoheecaaIo45
import Derived.Test.YtooeikimoheecaaIo41
import Derived.Deep.RegionHeld3
import Derived.Deep.DeepCutAuto
namespace Go.Proofs.Ytooeikimoheecaa.lawInOrder
open Go.ChangeShapes Go.WideShapes Go.ChangeAt Go.RowKit
set_option maxRecDepth 100000
theorem own : ownKnob Try.prog.godebug = none := by kernel_rfl
theorem laidOut : laidOutB Try.prog = true := by kernel_rfl
/-- Of a drawn call, there is a best route. -/
theorem call_best {h : HarbD} {q : CallD} {i : Int} (hok : HarbOk h) (hq : callGood i q) : (bestO h.ch.chart q.fr q.tt).isSome = true := by
  obtain ⟨p0, -, -⟩ := harb_pts hok
  have h03 := (best_some h.ch hok.2.2.1 (a := 0) (b := 3) (by omega) (by omega)).1
  have h30 := (best_some h.ch hok.2.2.1 (a := 3) (b := 0) (by omega) (by omega)).1
  obtain ⟨-, ⟨e1, e2⟩ | ⟨e1, e2⟩, -⟩ := hq
  · rw [e1, e2]; simpa using h03
  · rw [e1, e2]; simpa using h30
set_option maxHeartbeats 16000000 in
theorem law (A : Option Addr) (n c : Nat) (w : World) (hcode : n ≤ maxLen ∧ (n ≤ 1048576 → CodeAt w A n)) :
    Calls Try.prog 3 #[.slice A n c] w fun e w' => e = .returned (.bool true) ∧ Below w.heap.size w w' := by
  obtain ⟨hn, hcode⟩ := hcode
  have HC := Lib.hid hcode
  clear hcode
  unfold maxLen at hn
  by_cases hbig : 1048576 < n
  · go_enter Try.func3, Try.ntmps3
    go_wp2
    go_ret
    exact ⟨rfl, Below.refl _ _⟩
  have HC0 := Lib.hid (HC.out (by omega))
  clear HC
  go_enter Try.func3, Try.ntmps3
  go_wp2_with fail
  refine (makeCall_any A n c w HC0.out).mono ?_
  rintro e w1 ⟨h, A0, c0, A1, c1, A2, c2, A3, c3, A4, c4, A5, c5, q, i, hok, hi, hq, rfl, hown, hb1⟩
  obtain ⟨rf, rd, rs⟩ := harb_rd hown hok
  have hbs := call_best hok hq
  have hnm := names_drawn h.ch
  have hfl := harb_fleet hok
  have hwf := harb_wf hok
  obtain ⟨s, hs⟩ : ∃ s, h.fl[i]? = some s := ⟨_, List.getElem?_eq_getElem hi⟩
  obtain ⟨sg, i3⟩ := harb_ship hok hs
  have hsb := harb_ship_ok (by omega) sg
  have hsw := harb_ship_wf sg
  obtain ⟨l0, l1⟩ := harb_fc hok
  obtain ⟨-, p5, s5⟩ := harb_pts hok
  obtain ⟨-, L3⟩ := hok.2.2.2.1
  obtain ⟨qs, -, q0, q1, -⟩ := hq
  obtain ⟨f, hf⟩ : ∃ f, h.fc = f := ⟨_, rfl⟩
  rw [hf] at rf
  have e0 : h.m = f.mean := by rw [← hf]; rfl
  have e1 : h.l = f.parts := by rw [← hf]; rfl
  have e2 : h.s = f.surges := by rw [← hf]; rfl
  rw [e1] at rf l0
  rw [e2] at rf l1
  rw [e0, e1, e2]
  obtain ⟨d, hd⟩ : ∃ d, h.ch.chart = d := ⟨_, rfl⟩
  rw [hd] at rd hbs hnm p5 s5 ⊢
  obtain ⟨fl, hfl0⟩ : ∃ fl, h.fl = fl := ⟨_, rfl⟩
  rw [hfl0] at rs hfl hwf hs hi L3 ⊢
  obtain ⟨n0, hn0⟩ : ∃ n0, d.points.length = n0 := ⟨_, rfl⟩
  obtain ⟨n1, hn1⟩ : ∃ n1, d.segs.length = n1 := ⟨_, rfl⟩
  obtain ⟨L, hL⟩ : ∃ L, fl.length = L := ⟨_, rfl⟩
  obtain ⟨fr, hfr⟩ : ∃ fr, q.fr = fr := ⟨_, rfl⟩
  obtain ⟨tt, htt⟩ : ∃ tt, q.tt = tt := ⟨_, rfl⟩
  obtain ⟨r1, hr1⟩ : ∃ r1, q.ready = r1 := ⟨_, rfl⟩
  rw [hn0, hn1] at rd
  rw [hL] at rs hi L3
  rw [hfr, htt] at hbs
  rw [hr1] at q0 q1
  rw [hn0, hn1, hL]
  have hqv : q.val = .agg #[.int .i64 (i : Int), .int .i64 fr, .int .i64 tt, .int .i64 r1, .int .i64 q.due] := by unfold CallD.val; rw [qs, hfr, htt, hr1]
  rw [hqv]
  have RF1 := Lib.hid rf
  have RD1 := Lib.hid rd
  have RS1 := Lib.hid rs
  have NM := Lib.hid hnm
  have FLB := Lib.hid hfl
  have WF := Lib.hid hwf
  have HS := Lib.hid hs
  have SB := Lib.hid hsb
  have SW := Lib.hid hsw
  have BO := Lib.hid hbs
  have HN0 := Lib.hid hn0
  have HN1 := Lib.hid hn1
  have HL := Lib.hid hL
  have HC1 := Lib.hid (HC0.out.below hb1)
  have B1 := Lib.hid hb1
  clear rf rd rs hnm hfl hwf hs hsb hsw hbs hn0 hn1 hL hb1 HC0 hown hok hqv qs e0 e1 e2 hf hd hfl0 hfr htt hr1 sg i3
  have hal := (Joins.below_alloc1 w1 (.cells #[.int .i64 f.mean, .slice A0 f.parts.length c0, .slice A1 f.surges.length c1, .slice A2 n0 c2, .slice A3 n1 c3, .slice A4 L c4, .int .i64 h.gap, .bool h.nm, .int .i64 h.tu, .int .i64 h.pi, .int .i64 h.re, .slice A5 64 c5] 40)).trans ((Joins.below_alloc1 (w1.alloc (.cells #[.int .i64 f.mean, .slice A0 f.parts.length c0, .slice A1 f.surges.length c1, .slice A2 n0 c2, .slice A3 n1 c3, .slice A4 L c4, .int .i64 h.gap, .bool h.nm, .int .i64 h.tu, .int .i64 h.pi, .int .i64 h.re, .slice A5 64 c5] 40)) (.cells #[.int .i64 (i : Int), .int .i64 fr, .int .i64 tt, .int .i64 r1, .int .i64 q.due] 42)).mono (by simp))
  have KH2 := Lib.hid ((Blk.new w1 #[.int .i64 f.mean, .slice A0 f.parts.length c0, .slice A1 f.surges.length c1, .slice A2 n0 c2, .slice A3 n1 c3, .slice A4 L c4, .int .i64 h.gap, .bool h.nm, .int .i64 h.tu, .int .i64 h.pi, .int .i64 h.re, .slice A5 64 c5] 40).below (Joins.below_alloc1 (w1.alloc (.cells #[.int .i64 f.mean, .slice A0 f.parts.length c0, .slice A1 f.surges.length c1, .slice A2 n0 c2, .slice A3 n1 c3, .slice A4 L c4, .int .i64 h.gap, .bool h.nm, .int .i64 h.tu, .int .i64 h.pi, .int .i64 h.re, .slice A5 64 c5] 40)) (.cells #[.int .i64 (i : Int), .int .i64 fr, .int .i64 tt, .int .i64 r1, .int .i64 q.due] 42)))
  have KQ2 := Lib.hid (Blk.new (w1.alloc (.cells #[.int .i64 f.mean, .slice A0 f.parts.length c0, .slice A1 f.surges.length c1, .slice A2 n0 c2, .slice A3 n1 c3, .slice A4 L c4, .int .i64 h.gap, .bool h.nm, .int .i64 h.tu, .int .i64 h.pi, .int .i64 h.re, .slice A5 64 c5] 40)) #[.int .i64 (i : Int), .int .i64 fr, .int .i64 tt, .int .i64 r1, .int .i64 q.due] 42)
  rw [World.size_alloc] at KQ2
  obtain ⟨W, hW⟩ : ∃ W, W = (w1.alloc (.cells #[.int .i64 f.mean, .slice A0 f.parts.length c0, .slice A1 f.surges.length c1, .slice A2 n0 c2, .slice A3 n1 c3, .slice A4 L c4, .int .i64 h.gap, .bool h.nm, .int .i64 h.tu, .int .i64 h.pi, .int .i64 h.re, .slice A5 64 c5] 40)).alloc (.cells #[.int .i64 (i : Int), .int .i64 fr, .int .i64 tt, .int .i64 r1, .int .i64 q.due] 42) := ⟨_, rfl⟩
  rw [← hW] at hal KH2 KQ2
  have HW := Lib.hid hW
  clear hW
  obtain ⟨gs, os, ea, cells⟩ : ∃ gs os, A4 = some ⟨gs, os, none⟩ ∧ (w1.cell? ⟨gs, os + i * 6, none⟩ = some (.string s.name) ∧ w1.cell? ⟨gs, os + i * 6 + 1, none⟩ = some (.int .i64 s.length) ∧ w1.cell? ⟨gs, os + i * 6 + 2, none⟩ = some (.int .i64 s.draught) ∧ w1.cell? ⟨gs, os + i * 6 + 3, none⟩ = some (.int .i64 s.line) ∧ w1.cell? ⟨gs, os + i * 6 + 4, none⟩ = some (.int .i64 s.tugs) ∧ w1.cell? ⟨gs, os + i * 6 + 5, none⟩ = some (.bool s.slow)) := by
    have hs := HS.out
    rcases RS1.out.2 with ⟨he, _⟩ | ⟨g, o, c', e, hp, hcap, hc⟩
    · rw [he] at hs; simp at hs
    · injection e with hA _ _
      exact ⟨g, o, hA, SlShip.cells hc i s hs⟩
  subst ea
  obtain ⟨x0, x1, x2, x3, x4, x5⟩ := cells
  have y0 := cell_onV x0 hal
  have y1 := cell_onV x1 hal
  have y2 := cell_onV x2 hal
  have y3 := cell_onV x3 hal
  have y4 := cell_onV x4 hal
  have y5 := cell_onV x5 hal
  have HC2 := Lib.hid (HC1.out.below hal)
  have RF2 := Lib.hid (RF1.out.below hal)
  have RD2 := Lib.hid (RD1.out.below hal)
  have RS2 := Lib.hid (RS1.out.below hal)
  have B2 := Lib.hid (B1.out.trans (hal.mono B1.out.size))
  clear hal B1 HC1 RF1 RD1 RS1
  clear x0 x1 x2 x3 x4 x5
  go_upto_region 4 with fail
  rw [← HW.out]
  clear HW
  have t1 : ¬ (i : Int) < 0 := by omega
  have t2 : ¬ (L : Int) ≤ (i : Int) := by omega
  have vKH0 : W.cell? ⟨w1.heap.size, 0, none⟩ = some (.int .i64 f.mean) := KH2.out.cell 0
  have vKH1 : W.cell? ⟨w1.heap.size, 1, none⟩ = some (.slice A0 f.parts.length c0) := KH2.out.cell 1
  have vKH2 : W.cell? ⟨w1.heap.size, 2, none⟩ = some (.slice A1 f.surges.length c1) := KH2.out.cell 2
  have vKH3 : W.cell? ⟨w1.heap.size, 3, none⟩ = some (.slice A2 n0 c2) := KH2.out.cell 3
  have vKH4 : W.cell? ⟨w1.heap.size, 4, none⟩ = some (.slice A3 n1 c3) := KH2.out.cell 4
  have vKH5 : W.cell? ⟨w1.heap.size, 5, none⟩ = some (.slice (some ⟨gs, os, none⟩) L c4) := KH2.out.cell 5
  have vKH6 : W.cell? ⟨w1.heap.size, 6, none⟩ = some (.int .i64 h.gap) := KH2.out.cell 6
  have vKH7 : W.cell? ⟨w1.heap.size, 7, none⟩ = some (.bool h.nm) := KH2.out.cell 7
  have vKH8 : W.cell? ⟨w1.heap.size, 8, none⟩ = some (.int .i64 h.tu) := KH2.out.cell 8
  have vKH9 : W.cell? ⟨w1.heap.size, 9, none⟩ = some (.int .i64 h.pi) := KH2.out.cell 9
  have vKH10 : W.cell? ⟨w1.heap.size, 10, none⟩ = some (.int .i64 h.re) := KH2.out.cell 10
  have vKH11 : W.cell? ⟨w1.heap.size, 11, none⟩ = some (.slice A5 64 c5) := KH2.out.cell 11
  have vKQ0 : W.cell? ⟨w1.heap.size + 1, 0, none⟩ = some (.int .i64 (i : Int)) := KQ2.out.cell 0
  have vKQ1 : W.cell? ⟨w1.heap.size + 1, 1, none⟩ = some (.int .i64 fr) := KQ2.out.cell 1
  have vKQ2 : W.cell? ⟨w1.heap.size + 1, 2, none⟩ = some (.int .i64 tt) := KQ2.out.cell 2
  have vKQ3 : W.cell? ⟨w1.heap.size + 1, 3, none⟩ = some (.int .i64 r1) := KQ2.out.cell 3
  have vKQ4 : W.cell? ⟨w1.heap.size + 1, 4, none⟩ = some (.int .i64 q.due) := KQ2.out.cell 4
  go_upto_region 5 with fail
  clear vKH0 vKH1 vKH2 vKH3 vKH4 vKH5 vKH6 vKH7 vKH8 vKH9 vKH10 vKH11 vKQ0 vKQ1 vKQ2 vKQ3 vKQ4
  clear t1 t2 y0 y1 y2 y3 y4 y5
  have hb5 := Joins.below_alloc1 W (.cells #[.string s.name, .int .i64 s.length, .int .i64 s.draught, .int .i64 s.line, .int .i64 s.tugs, .bool s.slow] 46)
  have KS5 := Lib.hid (Blk.new W #[.string s.name, .int .i64 s.length, .int .i64 s.draught, .int .i64 s.line, .int .i64 s.tugs, .bool s.slow] 46)
  obtain ⟨w5, hw5⟩ : ∃ w5, w5 = W.alloc (.cells #[.string s.name, .int .i64 s.length, .int .i64 s.draught, .int .i64 s.line, .int .i64 s.tugs, .bool s.slow] 46) := ⟨_, rfl⟩
  rw [← hw5] at hb5 KS5 ⊢
  clear hw5
  have HC5 := Lib.hid (HC2.out.below hb5)
  have RF5 := Lib.hid (RF2.out.below hb5)
  have RD5 := Lib.hid (RD2.out.below hb5)
  have RS5 := Lib.hid (RS2.out.below hb5)
  have KH5 := Lib.hid (KH2.out.below hb5)
  have KQ5 := Lib.hid (KQ2.out.below hb5)
  have B5 := Lib.hid (B2.out.trans (hb5.mono B2.out.size))
  clear hb5 B2 HC2 RF2 RD2 RS2 KH2 KQ2
  have vKH0 : w5.cell? ⟨w1.heap.size, 0, none⟩ = some (.int .i64 f.mean) := KH5.out.cell 0
  have vKH1 : w5.cell? ⟨w1.heap.size, 1, none⟩ = some (.slice A0 f.parts.length c0) := KH5.out.cell 1
  have vKH2 : w5.cell? ⟨w1.heap.size, 2, none⟩ = some (.slice A1 f.surges.length c1) := KH5.out.cell 2
  have vKH3 : w5.cell? ⟨w1.heap.size, 3, none⟩ = some (.slice A2 n0 c2) := KH5.out.cell 3
  have vKH4 : w5.cell? ⟨w1.heap.size, 4, none⟩ = some (.slice A3 n1 c3) := KH5.out.cell 4
  have vKH5 : w5.cell? ⟨w1.heap.size, 5, none⟩ = some (.slice (some ⟨gs, os, none⟩) L c4) := KH5.out.cell 5
  have vKH6 : w5.cell? ⟨w1.heap.size, 6, none⟩ = some (.int .i64 h.gap) := KH5.out.cell 6
  have vKH7 : w5.cell? ⟨w1.heap.size, 7, none⟩ = some (.bool h.nm) := KH5.out.cell 7
  have vKH8 : w5.cell? ⟨w1.heap.size, 8, none⟩ = some (.int .i64 h.tu) := KH5.out.cell 8
  have vKH9 : w5.cell? ⟨w1.heap.size, 9, none⟩ = some (.int .i64 h.pi) := KH5.out.cell 9
  have vKH10 : w5.cell? ⟨w1.heap.size, 10, none⟩ = some (.int .i64 h.re) := KH5.out.cell 10
  have vKH11 : w5.cell? ⟨w1.heap.size, 11, none⟩ = some (.slice A5 64 c5) := KH5.out.cell 11
  have vKQ0 : w5.cell? ⟨w1.heap.size + 1, 0, none⟩ = some (.int .i64 (i : Int)) := KQ5.out.cell 0
  have vKQ1 : w5.cell? ⟨w1.heap.size + 1, 1, none⟩ = some (.int .i64 fr) := KQ5.out.cell 1
  have vKQ2 : w5.cell? ⟨w1.heap.size + 1, 2, none⟩ = some (.int .i64 tt) := KQ5.out.cell 2
  have vKQ3 : w5.cell? ⟨w1.heap.size + 1, 3, none⟩ = some (.int .i64 r1) := KQ5.out.cell 3
  have vKQ4 : w5.cell? ⟨w1.heap.size + 1, 4, none⟩ = some (.int .i64 q.due) := KQ5.out.cell 4
  go_wp2_with fail
  clear vKH0 vKH1 vKH2 vKH3 vKH4 vKH5 vKH6 vKH7 vKH8 vKH9 vKH10 vKH11 vKQ0 vKQ1 vKQ2 vKQ3 vKQ4
  refine (implBestRoute _ _ d fr tt _ RD5.out NM.out).mono ?_
  intro e w6 hN
  rw [BO.out] at hN
  obtain ⟨vb, rfl, hob, hb6⟩ := hN
  have hbl := bestO_len d fr tt
  obtain ⟨rt, hrt⟩ : ∃ rt, (bestO d fr tt).getD [] = rt := ⟨_, rfl⟩
  rw [hrt] at hob hbl
  have SR6 := Lib.hid (own_sl intLen hob (by omega))
  obtain ⟨AR, kr, rfl⟩ := own_form hob
  obtain ⟨nr, hnr⟩ : ∃ nr, rt.length = nr := ⟨_, rfl⟩
  rw [hnr] at SR6 hbl ⊢
  have HNR := Lib.hid hnr
  clear hob hrt hnr
  have HC6 := Lib.hid (HC5.out.below hb6)
  have RF6 := Lib.hid (RF5.out.below hb6)
  have RD6 := Lib.hid (RD5.out.below hb6)
  have RS6 := Lib.hid (RS5.out.below hb6)
  have KH6 := Lib.hid (KH5.out.below hb6)
  have KQ6 := Lib.hid (KQ5.out.below hb6)
  have KS6 := Lib.hid (KS5.out.below hb6)
  have B6 := Lib.hid (B5.out.trans (hb6.mono B5.out.size))
  clear hb6 B5 HC5 RF5 RD5 RS5 KH5 KQ5 KS5
  have vKH0 : w6.cell? ⟨w1.heap.size, 0, none⟩ = some (.int .i64 f.mean) := KH6.out.cell 0
  have vKH1 : w6.cell? ⟨w1.heap.size, 1, none⟩ = some (.slice A0 f.parts.length c0) := KH6.out.cell 1
  have vKH2 : w6.cell? ⟨w1.heap.size, 2, none⟩ = some (.slice A1 f.surges.length c1) := KH6.out.cell 2
  have vKH3 : w6.cell? ⟨w1.heap.size, 3, none⟩ = some (.slice A2 n0 c2) := KH6.out.cell 3
  have vKH4 : w6.cell? ⟨w1.heap.size, 4, none⟩ = some (.slice A3 n1 c3) := KH6.out.cell 4
  have vKH5 : w6.cell? ⟨w1.heap.size, 5, none⟩ = some (.slice (some ⟨gs, os, none⟩) L c4) := KH6.out.cell 5
  have vKH6 : w6.cell? ⟨w1.heap.size, 6, none⟩ = some (.int .i64 h.gap) := KH6.out.cell 6
  have vKH7 : w6.cell? ⟨w1.heap.size, 7, none⟩ = some (.bool h.nm) := KH6.out.cell 7
  have vKH8 : w6.cell? ⟨w1.heap.size, 8, none⟩ = some (.int .i64 h.tu) := KH6.out.cell 8
  have vKH9 : w6.cell? ⟨w1.heap.size, 9, none⟩ = some (.int .i64 h.pi) := KH6.out.cell 9
  have vKH10 : w6.cell? ⟨w1.heap.size, 10, none⟩ = some (.int .i64 h.re) := KH6.out.cell 10
  have vKH11 : w6.cell? ⟨w1.heap.size, 11, none⟩ = some (.slice A5 64 c5) := KH6.out.cell 11
  have vKQ0 : w6.cell? ⟨w1.heap.size + 1, 0, none⟩ = some (.int .i64 (i : Int)) := KQ6.out.cell 0
  have vKQ1 : w6.cell? ⟨w1.heap.size + 1, 1, none⟩ = some (.int .i64 fr) := KQ6.out.cell 1
  have vKQ2 : w6.cell? ⟨w1.heap.size + 1, 2, none⟩ = some (.int .i64 tt) := KQ6.out.cell 2
  have vKQ3 : w6.cell? ⟨w1.heap.size + 1, 3, none⟩ = some (.int .i64 r1) := KQ6.out.cell 3
  have vKQ4 : w6.cell? ⟨w1.heap.size + 1, 4, none⟩ = some (.int .i64 q.due) := KQ6.out.cell 4
  have vKS0 : w6.cell? ⟨W.heap.size, 0, none⟩ = some (.string s.name) := KS6.out.cell 0
  have vKS1 : w6.cell? ⟨W.heap.size, 1, none⟩ = some (.int .i64 s.length) := KS6.out.cell 1
  have vKS2 : w6.cell? ⟨W.heap.size, 2, none⟩ = some (.int .i64 s.draught) := KS6.out.cell 2
  have vKS3 : w6.cell? ⟨W.heap.size, 3, none⟩ = some (.int .i64 s.line) := KS6.out.cell 3
  have vKS4 : w6.cell? ⟨W.heap.size, 4, none⟩ = some (.int .i64 s.tugs) := KS6.out.cell 4
  have vKS5 : w6.cell? ⟨W.heap.size, 5, none⟩ = some (.bool s.slow) := KS6.out.cell 5
  go_wp2_with fail
  clear vKH0 vKH1 vKH2 vKH3 vKH4 vKH5 vKH6 vKH7 vKH8 vKH9 vKH10 vKH11 vKQ0 vKQ1 vKQ2 vKQ3 vKQ4 vKS0 vKS1 vKS2 vKS3 vKS4 vKS5
  refine (implFirstSail _ _ f _ _ d s fr _ rt r1 _ RF6.out RD6.out SR6.out NM.out SW.out).mono ?_
  intro e w7 hN
  obtain ⟨v1, rfl, ho1, hb7⟩ := hN
  obtain ⟨z1, hz1⟩ : ∃ z, firstSail f d s fr rt r1 = z := ⟨_, rfl⟩
  have hl1 : (z1.getD []).length ≤ nr := by rw [← hz1, ← HNR.out]; exact firstO_len _ _
  rw [hz1] at ho1 ⊢
  have HZ1 := Lib.hid hz1
  obtain ⟨x, hx⟩ : ∃ x, z1.getD [] = x := ⟨_, rfl⟩
  rw [hx] at ho1 hl1
  have SX7 := Lib.hid (own_sl intLen ho1 (by omega))
  obtain ⟨AX, kx, rfl⟩ := own_form ho1
  obtain ⟨nx, hnx⟩ : ∃ nx, x.length = nx := ⟨_, rfl⟩
  rw [hnx] at SX7 hl1 ⊢
  obtain ⟨b1, hb1⟩ : ∃ b, z1.isSome = b := ⟨_, rfl⟩
  rw [hb1]
  have HB1 := Lib.hid hb1
  have HX := Lib.hid hx
  have HNX := Lib.hid hnx
  clear ho1 hz1 hx hnx hb1
  have HC7 := Lib.hid (HC6.out.below hb7)
  have RF7 := Lib.hid (RF6.out.below hb7)
  have RD7 := Lib.hid (RD6.out.below hb7)
  have RS7 := Lib.hid (RS6.out.below hb7)
  have KH7 := Lib.hid (KH6.out.below hb7)
  have KQ7 := Lib.hid (KQ6.out.below hb7)
  have KS7 := Lib.hid (KS6.out.below hb7)
  have SR7 := Lib.hid (SR6.out.below hb7)
  have B7 := Lib.hid (B6.out.trans (hb7.mono B6.out.size))
  clear hb7 B6 HC6 RF6 RD6 RS6 KH6 KQ6 KS6 SR6
  have hw1 : IntKind.i64.wrap (r1 + 1) = r1 + 1 := by rw [IntKind.wrap_i64]; omega
  go_upto_region 7 with fail
  have FKH0 := Lib.hid (show w7.cell? ⟨w1.heap.size, 0, none⟩ = some (.int .i64 f.mean) from KH7.out.cell 0)
  have FKH1 := Lib.hid (show w7.cell? ⟨w1.heap.size, 1, none⟩ = some (.slice A0 f.parts.length c0) from KH7.out.cell 1)
  have FKH2 := Lib.hid (show w7.cell? ⟨w1.heap.size, 2, none⟩ = some (.slice A1 f.surges.length c1) from KH7.out.cell 2)
  have FKH3 := Lib.hid (show w7.cell? ⟨w1.heap.size, 3, none⟩ = some (.slice A2 n0 c2) from KH7.out.cell 3)
  have FKH4 := Lib.hid (show w7.cell? ⟨w1.heap.size, 4, none⟩ = some (.slice A3 n1 c3) from KH7.out.cell 4)
  have FKH5 := Lib.hid (show w7.cell? ⟨w1.heap.size, 5, none⟩ = some (.slice (some ⟨gs, os, none⟩) L c4) from KH7.out.cell 5)
  have FKH6 := Lib.hid (show w7.cell? ⟨w1.heap.size, 6, none⟩ = some (.int .i64 h.gap) from KH7.out.cell 6)
  have FKH7 := Lib.hid (show w7.cell? ⟨w1.heap.size, 7, none⟩ = some (.bool h.nm) from KH7.out.cell 7)
  have FKH8 := Lib.hid (show w7.cell? ⟨w1.heap.size, 8, none⟩ = some (.int .i64 h.tu) from KH7.out.cell 8)
  have FKH9 := Lib.hid (show w7.cell? ⟨w1.heap.size, 9, none⟩ = some (.int .i64 h.pi) from KH7.out.cell 9)
  have FKH10 := Lib.hid (show w7.cell? ⟨w1.heap.size, 10, none⟩ = some (.int .i64 h.re) from KH7.out.cell 10)
  have FKH11 := Lib.hid (show w7.cell? ⟨w1.heap.size, 11, none⟩ = some (.slice A5 64 c5) from KH7.out.cell 11)
  have FKQ0 := Lib.hid (show w7.cell? ⟨w1.heap.size + 1, 0, none⟩ = some (.int .i64 (i : Int)) from KQ7.out.cell 0)
  have FKQ1 := Lib.hid (show w7.cell? ⟨w1.heap.size + 1, 1, none⟩ = some (.int .i64 fr) from KQ7.out.cell 1)
  have FKQ2 := Lib.hid (show w7.cell? ⟨w1.heap.size + 1, 2, none⟩ = some (.int .i64 tt) from KQ7.out.cell 2)
  have FKQ3 := Lib.hid (show w7.cell? ⟨w1.heap.size + 1, 3, none⟩ = some (.int .i64 r1) from KQ7.out.cell 3)
  have FKQ4 := Lib.hid (show w7.cell? ⟨w1.heap.size + 1, 4, none⟩ = some (.int .i64 q.due) from KQ7.out.cell 4)
  have FKS0 := Lib.hid (show w7.cell? ⟨W.heap.size, 0, none⟩ = some (.string s.name) from KS7.out.cell 0)
  have FKS1 := Lib.hid (show w7.cell? ⟨W.heap.size, 1, none⟩ = some (.int .i64 s.length) from KS7.out.cell 1)
  have FKS2 := Lib.hid (show w7.cell? ⟨W.heap.size, 2, none⟩ = some (.int .i64 s.draught) from KS7.out.cell 2)
  have FKS3 := Lib.hid (show w7.cell? ⟨W.heap.size, 3, none⟩ = some (.int .i64 s.line) from KS7.out.cell 3)
  have FKS4 := Lib.hid (show w7.cell? ⟨W.heap.size, 4, none⟩ = some (.int .i64 s.tugs) from KS7.out.cell 4)
  have FKS5 := Lib.hid (show w7.cell? ⟨W.heap.size, 5, none⟩ = some (.bool s.slow) from KS7.out.cell 5)
  have DD := Lib.hid ((Below.refl w7.heap.size w7).drew)
  have vFKH0 := FKH0.out
  have vFKH1 := FKH1.out
  have vFKH2 := FKH2.out
  have vFKH3 := FKH3.out
  have vFKH4 := FKH4.out
  have vFKH5 := FKH5.out
  have vFKH6 := FKH6.out
  have vFKH7 := FKH7.out
  have vFKH8 := FKH8.out
  have vFKH9 := FKH9.out
  have vFKH10 := FKH10.out
  have vFKH11 := FKH11.out
  have vFKQ0 := FKQ0.out
  have vFKQ1 := FKQ1.out
  have vFKQ2 := FKQ2.out
  have vFKQ3 := FKQ3.out
  have vFKQ4 := FKQ4.out
  have vFKS0 := FKS0.out
  have vFKS1 := FKS1.out
  have vFKS2 := FKS2.out
  have vFKS3 := FKS3.out
  have vFKS4 := FKS4.out
  have vFKS5 := FKS5.out
  refine wp_region_held_drew (S := (fun w' => w'.cell? ⟨w1.heap.size, 0, none⟩ = some (.int .i64 f.mean) ∧ w'.cell? ⟨w1.heap.size, 1, none⟩ = some (.slice A0 f.parts.length c0) ∧ w'.cell? ⟨w1.heap.size, 2, none⟩ = some (.slice A1 f.surges.length c1) ∧ w'.cell? ⟨w1.heap.size, 3, none⟩ = some (.slice A2 n0 c2) ∧ w'.cell? ⟨w1.heap.size, 4, none⟩ = some (.slice A3 n1 c3) ∧ w'.cell? ⟨w1.heap.size, 5, none⟩ = some (.slice (some ⟨gs, os, none⟩) L c4) ∧ w'.cell? ⟨w1.heap.size, 6, none⟩ = some (.int .i64 h.gap) ∧ w'.cell? ⟨w1.heap.size, 7, none⟩ = some (.bool h.nm) ∧ w'.cell? ⟨w1.heap.size, 8, none⟩ = some (.int .i64 h.tu) ∧ w'.cell? ⟨w1.heap.size, 9, none⟩ = some (.int .i64 h.pi) ∧ w'.cell? ⟨w1.heap.size, 10, none⟩ = some (.int .i64 h.re) ∧ w'.cell? ⟨w1.heap.size, 11, none⟩ = some (.slice A5 64 c5) ∧ w'.cell? ⟨w1.heap.size + 1, 0, none⟩ = some (.int .i64 (i : Int)) ∧ w'.cell? ⟨w1.heap.size + 1, 1, none⟩ = some (.int .i64 fr) ∧ w'.cell? ⟨w1.heap.size + 1, 2, none⟩ = some (.int .i64 tt) ∧ w'.cell? ⟨w1.heap.size + 1, 3, none⟩ = some (.int .i64 r1) ∧ w'.cell? ⟨w1.heap.size + 1, 4, none⟩ = some (.int .i64 q.due) ∧ w'.cell? ⟨W.heap.size, 0, none⟩ = some (.string s.name) ∧ w'.cell? ⟨W.heap.size, 1, none⟩ = some (.int .i64 s.length) ∧ w'.cell? ⟨W.heap.size, 2, none⟩ = some (.int .i64 s.draught) ∧ w'.cell? ⟨W.heap.size, 3, none⟩ = some (.int .i64 s.line) ∧ w'.cell? ⟨W.heap.size, 4, none⟩ = some (.int .i64 s.tugs) ∧ w'.cell? ⟨W.heap.size, 5, none⟩ = some (.bool s.slow) ∧ Hid (Below w7.heap.size w7 w'))) (by kernel_rfl) ?_ (fun hHeld => ?_)
  · (try dsimp only); go_keep
  refine wpAnyH_take (i := 0) (v := ?_) (by simp only [List.getElem?_toArray, List.getElem?_cons_zero]; rfl) (by kernel_rfl) (by kernel_rfl) (by kernel_rfl) (by exact fun _ _ _ h => h) (Or.inl ⟨by rfl, ?_⟩) (by assumption) ?_; rotate_left; focus (intro w hSw; (try dsimp only at hSw); first | (go_simp; done) | (go_simp; with_reducible rfl))
  try simp only [Act.put, List.setIfInBounds_toArray, List.set_cons_zero, List.set_cons_succ]
  refine wpAnyH_take (i := 1) (v := ?_) (by simp only [List.getElem?_toArray, List.getElem?_cons_succ, List.getElem?_cons_zero]; rfl) (by kernel_rfl) (by kernel_rfl) (by kernel_rfl) (by exact fun _ _ _ h => h) (Or.inl ⟨by rfl, ?_⟩) (by assumption) ?_; rotate_left; focus (intro w hSw; (try dsimp only at hSw); first | (go_simp; done) | (go_simp; with_reducible rfl))
  try simp only [Act.put, List.setIfInBounds_toArray, List.set_cons_zero, List.set_cons_succ]
  refine wpAnyH_take (i := 2) (v := ?_) (by simp only [List.getElem?_toArray, List.getElem?_cons_succ, List.getElem?_cons_zero]; rfl) (by kernel_rfl) (by kernel_rfl) (by kernel_rfl) (by exact fun _ _ _ h => h) (Or.inl ⟨by rfl, ?_⟩) (by assumption) ?_; rotate_left; focus (intro w hSw; (try dsimp only at hSw); first | (go_simp; done) | (go_simp; with_reducible rfl))
  try simp only [Act.put, List.setIfInBounds_toArray, List.set_cons_zero, List.set_cons_succ]
  refine wpAnyH_take (i := 3) (v := ?_) (by simp only [List.getElem?_toArray, List.getElem?_cons_succ, List.getElem?_cons_zero]; rfl) (by kernel_rfl) (by kernel_rfl) (by kernel_rfl) (by exact fun _ _ _ h => h) (Or.inl ⟨by rfl, ?_⟩) (by assumption) ?_; rotate_left; focus (intro w hSw; (try dsimp only at hSw); first | (go_simp; done) | (go_simp; with_reducible rfl))
  try simp only [Act.put, List.setIfInBounds_toArray, List.set_cons_zero, List.set_cons_succ]
  refine wpAnyH_take (i := 4) (v := ?_) (by simp only [List.getElem?_toArray, List.getElem?_cons_succ, List.getElem?_cons_zero]; rfl) (by kernel_rfl) (by kernel_rfl) (by kernel_rfl) (by exact fun _ _ _ h => h) (Or.inl ⟨by rfl, ?_⟩) (by assumption) ?_; rotate_left; focus (intro w hSw; (try dsimp only at hSw); first | (go_simp; done) | (go_simp; with_reducible rfl))
  try simp only [Act.put, List.setIfInBounds_toArray, List.set_cons_zero, List.set_cons_succ]
  refine wpAnyH_take (i := 5) (v := ?_) (by simp only [List.getElem?_toArray, List.getElem?_cons_succ, List.getElem?_cons_zero]; rfl) (by kernel_rfl) (by kernel_rfl) (by kernel_rfl) (by exact fun _ _ _ h => h) (Or.inl ⟨by rfl, ?_⟩) (by assumption) ?_; rotate_left; focus (intro w hSw; (try dsimp only at hSw); first | (go_simp; done) | (go_simp; with_reducible rfl))
  try simp only [Act.put, List.setIfInBounds_toArray, List.set_cons_zero, List.set_cons_succ]
  refine wpAnyH_take (i := 6) (v := ?_) (by simp only [List.getElem?_toArray, List.getElem?_cons_succ, List.getElem?_cons_zero]; rfl) (by kernel_rfl) (by kernel_rfl) (by kernel_rfl) (by exact fun _ _ _ h => h) (Or.inl ⟨by rfl, ?_⟩) (by assumption) ?_; rotate_left; focus (intro w hSw; (try dsimp only at hSw); first | (go_simp; done) | (go_simp; with_reducible rfl))
  try simp only [Act.put, List.setIfInBounds_toArray, List.set_cons_zero, List.set_cons_succ]
  refine wpAnyH_take (i := 7) (v := ?_) (by simp only [List.getElem?_toArray, List.getElem?_cons_succ, List.getElem?_cons_zero]; rfl) (by kernel_rfl) (by kernel_rfl) (by kernel_rfl) (by exact fun _ _ _ h => h) (Or.inl ⟨by rfl, ?_⟩) (by assumption) ?_; rotate_left; focus (intro w hSw; (try dsimp only at hSw); first | (go_simp; done) | (go_simp; with_reducible rfl))
  try simp only [Act.put, List.setIfInBounds_toArray, List.set_cons_zero, List.set_cons_succ]
  refine wpAnyH_take (i := 8) (v := ?_) (by simp only [List.getElem?_toArray, List.getElem?_cons_succ, List.getElem?_cons_zero]; rfl) (by kernel_rfl) (by kernel_rfl) (by kernel_rfl) (by exact fun _ _ _ h => h) (Or.inl ⟨by rfl, ?_⟩) (by assumption) ?_; rotate_left; focus (intro w hSw; (try dsimp only at hSw); first | (go_simp; done) | (go_simp; with_reducible rfl))
  try simp only [Act.put, List.setIfInBounds_toArray, List.set_cons_zero, List.set_cons_succ]
  refine wpAnyH_take (i := 9) (v := ?_) (by simp only [List.getElem?_toArray, List.getElem?_cons_succ, List.getElem?_cons_zero]; rfl) (by kernel_rfl) (by kernel_rfl) (by kernel_rfl) (by exact fun _ _ _ h => h) (Or.inl ⟨by rfl, ?_⟩) (by assumption) ?_; rotate_left; focus (intro w hSw; (try dsimp only at hSw); first | (go_simp; done) | (go_simp; with_reducible rfl))
  try simp only [Act.put, List.setIfInBounds_toArray, List.set_cons_zero, List.set_cons_succ]
  refine wpAnyH_take (i := 10) (v := ?_) (by simp only [List.getElem?_toArray, List.getElem?_cons_succ, List.getElem?_cons_zero]; rfl) (by kernel_rfl) (by kernel_rfl) (by kernel_rfl) (by exact fun _ _ _ h => h) (Or.inl ⟨by rfl, ?_⟩) (by assumption) ?_; rotate_left; focus (intro w hSw; (try dsimp only at hSw); first | (go_simp; done) | (go_simp; with_reducible rfl))
  try simp only [Act.put, List.setIfInBounds_toArray, List.set_cons_zero, List.set_cons_succ]
  refine wpAnyH_take (i := 11) (v := ?_) (by simp only [List.getElem?_toArray, List.getElem?_cons_succ, List.getElem?_cons_zero]; rfl) (by kernel_rfl) (by kernel_rfl) (by kernel_rfl) (by exact fun _ _ _ h => h) (Or.inl ⟨by rfl, ?_⟩) (by assumption) ?_; rotate_left; focus (intro w hSw; (try dsimp only at hSw); first | (go_simp; done) | (go_simp; with_reducible rfl))
  try simp only [Act.put, List.setIfInBounds_toArray, List.set_cons_zero, List.set_cons_succ]
  refine wpAnyH_ready (rs := [12]) (by kernel_rfl) (by simp) ?_
  refine AllReadyH.cons rfl (fun K hK => ?_) AllReadyH.nil
  rw [if_pos (by rfl)]
  go_simp
  go_at_call 11
  have kB := hHeld.2.2.2.2.2.2.2.2.2.2.2.2.2.2.2.2.2.2.2.2.2.2.2
  refine (makeNum_any A n c 90 _ (HC7.out.below kB.out) (by omega)).mono ?_
  rintro e wq12 ⟨z, rfl, z0, z1', hbk⟩
  have hz2 : 0 ≤ z.tmod 200 ∧ z.tmod 200 < 200 := by rw [Int.tmod_eq_emod_of_nonneg z0]; omega
  obtain ⟨r2, hr2⟩ : ∃ r2, r1 + 1 + z.tmod 200 = r2 := ⟨_, rfl⟩
  have hw2 : IntKind.i64.wrap (r1 + 1 + z.tmod 200) = r2 := by rw [IntKind.wrap_i64]; omega
  have H12 := Lib.hid (show r1 ≤ r2 by omega)
  clear hz2 hr2 z0 z1'
  have HBK := kB.out.trans (hbk.mono kB.out.size)
  have QS := Lib.hid (show wq12.cell? ⟨w1.heap.size, 0, none⟩ = some (.int .i64 f.mean) ∧ wq12.cell? ⟨w1.heap.size, 1, none⟩ = some (.slice A0 f.parts.length c0) ∧ wq12.cell? ⟨w1.heap.size, 2, none⟩ = some (.slice A1 f.surges.length c1) ∧ wq12.cell? ⟨w1.heap.size, 3, none⟩ = some (.slice A2 n0 c2) ∧ wq12.cell? ⟨w1.heap.size, 4, none⟩ = some (.slice A3 n1 c3) ∧ wq12.cell? ⟨w1.heap.size, 5, none⟩ = some (.slice (some ⟨gs, os, none⟩) L c4) ∧ wq12.cell? ⟨w1.heap.size, 6, none⟩ = some (.int .i64 h.gap) ∧ wq12.cell? ⟨w1.heap.size, 7, none⟩ = some (.bool h.nm) ∧ wq12.cell? ⟨w1.heap.size, 8, none⟩ = some (.int .i64 h.tu) ∧ wq12.cell? ⟨w1.heap.size, 9, none⟩ = some (.int .i64 h.pi) ∧ wq12.cell? ⟨w1.heap.size, 10, none⟩ = some (.int .i64 h.re) ∧ wq12.cell? ⟨w1.heap.size, 11, none⟩ = some (.slice A5 64 c5) ∧ wq12.cell? ⟨w1.heap.size + 1, 0, none⟩ = some (.int .i64 (i : Int)) ∧ wq12.cell? ⟨w1.heap.size + 1, 1, none⟩ = some (.int .i64 fr) ∧ wq12.cell? ⟨w1.heap.size + 1, 2, none⟩ = some (.int .i64 tt) ∧ wq12.cell? ⟨w1.heap.size + 1, 3, none⟩ = some (.int .i64 r1) ∧ wq12.cell? ⟨w1.heap.size + 1, 4, none⟩ = some (.int .i64 q.due) ∧ wq12.cell? ⟨W.heap.size, 0, none⟩ = some (.string s.name) ∧ wq12.cell? ⟨W.heap.size, 1, none⟩ = some (.int .i64 s.length) ∧ wq12.cell? ⟨W.heap.size, 2, none⟩ = some (.int .i64 s.draught) ∧ wq12.cell? ⟨W.heap.size, 3, none⟩ = some (.int .i64 s.line) ∧ wq12.cell? ⟨W.heap.size, 4, none⟩ = some (.int .i64 s.tugs) ∧ wq12.cell? ⟨W.heap.size, 5, none⟩ = some (.bool s.slow) ∧ Hid (Below w7.heap.size w7 wq12) from ⟨cell_onV FKH0.out HBK, cell_onV FKH1.out HBK, cell_onV FKH2.out HBK, cell_onV FKH3.out HBK, cell_onV FKH4.out HBK, cell_onV FKH5.out HBK, cell_onV FKH6.out HBK, cell_onV FKH7.out HBK, cell_onV FKH8.out HBK, cell_onV FKH9.out HBK, cell_onV FKH10.out HBK, cell_onV FKH11.out HBK, cell_onV FKQ0.out HBK, cell_onV FKQ1.out HBK, cell_onV FKQ2.out HBK, cell_onV FKQ3.out HBK, cell_onV FKQ4.out HBK, cell_onV FKS0.out HBK, cell_onV FKS1.out HBK, cell_onV FKS2.out HBK, cell_onV FKS3.out HBK, cell_onV FKS4.out HBK, cell_onV FKS5.out HBK, Lib.hid HBK⟩)
  clear hbk kB hHeld HBK
  go_simp
  refine hK.out _ _ ?_ (fun hHeld => ?_)
  · (try dsimp only); exact QS.out
  clear hK K
  try simp only [Act.put, List.setIfInBounds_toArray, List.set_cons_zero, List.set_cons_succ]
  refine wpAnyH_take (i := 13) (v := ?_) (by simp only [List.getElem?_toArray, List.getElem?_cons_succ, List.getElem?_cons_zero]; rfl) (by kernel_rfl) (by kernel_rfl) (by kernel_rfl) (by exact fun _ _ _ h => h) (Or.inl ⟨by rfl, ?_⟩) (by assumption) ?_; rotate_left; focus (intro w hSw; (try dsimp only at hSw); first | (go_simp; done) | (go_simp; with_reducible rfl))
  try simp only [Act.put, List.setIfInBounds_toArray, List.set_cons_zero, List.set_cons_succ]
  refine wpAnyH_take (i := 14) (v := ?_) (by simp only [List.getElem?_toArray, List.getElem?_cons_succ, List.getElem?_cons_zero]; rfl) (by kernel_rfl) (by kernel_rfl) (by kernel_rfl) (by exact fun _ _ _ h => h) (Or.inl ⟨by rfl, ?_⟩) (by assumption) ?_; rotate_left; focus (intro w hSw; (try dsimp only at hSw); first | (go_simp; done) | (go_simp; with_reducible rfl))
  try simp only [Act.put, List.setIfInBounds_toArray, List.set_cons_zero, List.set_cons_succ]
  refine wpAnyH_ready (rs := [15]) (by kernel_rfl) (by simp) ?_
  refine AllReadyH.cons rfl (fun K hK => ?_) AllReadyH.nil
  rw [if_pos (by rfl)]
  go_simp
  go_at_call 10
  have kB := hHeld.2.2.2.2.2.2.2.2.2.2.2.2.2.2.2.2.2.2.2.2.2.2.2
  refine (implFirstSail _ _ f _ _ d s fr _ rt r2 _ (RF7.out.below kB.out) (RD7.out.below kB.out) (SR7.out.below kB.out) NM.out SW.out).mono ?_
  rintro e wq15 ⟨v2, rfl, ho2, hbk⟩
  have ho3 := own_lo (base' := w7.heap.size) ho2 (by have := kB.out.size; omega)
  have hl2 : ((firstSail f d s fr rt r2).getD []).length ≤ nr := by rw [← HNR.out]; exact firstO_len _ _
  obtain ⟨z2, hz2⟩ : ∃ z, firstSail f d s fr rt r2 = z := ⟨_, rfl⟩
  rw [hz2] at ho3 hl2 ⊢
  have HZ2 := Lib.hid hz2
  obtain ⟨y, hy⟩ : ∃ y, z2.getD [] = y := ⟨_, rfl⟩
  rw [hy] at ho3 hl2
  have SY8 := Lib.hid (own_sl intLen ho3 (by omega))
  obtain ⟨AY, ky, rfl⟩ := own_form ho3
  obtain ⟨ny, hny⟩ : ∃ ny, y.length = ny := ⟨_, rfl⟩
  rw [hny] at SY8 hl2 ⊢
  obtain ⟨b2, hb2⟩ : ∃ b, z2.isSome = b := ⟨_, rfl⟩
  rw [hb2]
  have HB2 := Lib.hid hb2
  have HY := Lib.hid hy
  have HNY := Lib.hid hny
  clear ho2 ho3 hz2 hy hny hb2 hw2
  have HBK := kB.out.trans (hbk.mono kB.out.size)
  have QS := Lib.hid (show wq15.cell? ⟨w1.heap.size, 0, none⟩ = some (.int .i64 f.mean) ∧ wq15.cell? ⟨w1.heap.size, 1, none⟩ = some (.slice A0 f.parts.length c0) ∧ wq15.cell? ⟨w1.heap.size, 2, none⟩ = some (.slice A1 f.surges.length c1) ∧ wq15.cell? ⟨w1.heap.size, 3, none⟩ = some (.slice A2 n0 c2) ∧ wq15.cell? ⟨w1.heap.size, 4, none⟩ = some (.slice A3 n1 c3) ∧ wq15.cell? ⟨w1.heap.size, 5, none⟩ = some (.slice (some ⟨gs, os, none⟩) L c4) ∧ wq15.cell? ⟨w1.heap.size, 6, none⟩ = some (.int .i64 h.gap) ∧ wq15.cell? ⟨w1.heap.size, 7, none⟩ = some (.bool h.nm) ∧ wq15.cell? ⟨w1.heap.size, 8, none⟩ = some (.int .i64 h.tu) ∧ wq15.cell? ⟨w1.heap.size, 9, none⟩ = some (.int .i64 h.pi) ∧ wq15.cell? ⟨w1.heap.size, 10, none⟩ = some (.int .i64 h.re) ∧ wq15.cell? ⟨w1.heap.size, 11, none⟩ = some (.slice A5 64 c5) ∧ wq15.cell? ⟨w1.heap.size + 1, 0, none⟩ = some (.int .i64 (i : Int)) ∧ wq15.cell? ⟨w1.heap.size + 1, 1, none⟩ = some (.int .i64 fr) ∧ wq15.cell? ⟨w1.heap.size + 1, 2, none⟩ = some (.int .i64 tt) ∧ wq15.cell? ⟨w1.heap.size + 1, 3, none⟩ = some (.int .i64 r1) ∧ wq15.cell? ⟨w1.heap.size + 1, 4, none⟩ = some (.int .i64 q.due) ∧ wq15.cell? ⟨W.heap.size, 0, none⟩ = some (.string s.name) ∧ wq15.cell? ⟨W.heap.size, 1, none⟩ = some (.int .i64 s.length) ∧ wq15.cell? ⟨W.heap.size, 2, none⟩ = some (.int .i64 s.draught) ∧ wq15.cell? ⟨W.heap.size, 3, none⟩ = some (.int .i64 s.line) ∧ wq15.cell? ⟨W.heap.size, 4, none⟩ = some (.int .i64 s.tugs) ∧ wq15.cell? ⟨W.heap.size, 5, none⟩ = some (.bool s.slow) ∧ Hid (Below w7.heap.size w7 wq15) from ⟨cell_onV FKH0.out HBK, cell_onV FKH1.out HBK, cell_onV FKH2.out HBK, cell_onV FKH3.out HBK, cell_onV FKH4.out HBK, cell_onV FKH5.out HBK, cell_onV FKH6.out HBK, cell_onV FKH7.out HBK, cell_onV FKH8.out HBK, cell_onV FKH9.out HBK, cell_onV FKH10.out HBK, cell_onV FKH11.out HBK, cell_onV FKQ0.out HBK, cell_onV FKQ1.out HBK, cell_onV FKQ2.out HBK, cell_onV FKQ3.out HBK, cell_onV FKQ4.out HBK, cell_onV FKS0.out HBK, cell_onV FKS1.out HBK, cell_onV FKS2.out HBK, cell_onV FKS3.out HBK, cell_onV FKS4.out HBK, cell_onV FKS5.out HBK, Lib.hid HBK⟩)
  clear hbk kB hHeld HBK
  go_simp
  refine hK.out _ _ ?_ (fun hHeld => ?_)
  · (try dsimp only); exact QS.out
  clear hK K
  try simp only [Act.put, List.setIfInBounds_toArray, List.set_cons_zero, List.set_cons_succ]
  refine wpAnyH_take (i := 16) (v := ?_) (by simp only [List.getElem?_toArray, List.getElem?_cons_succ, List.getElem?_cons_zero]; rfl) (by kernel_rfl) (by kernel_rfl) (by kernel_rfl) (by exact fun _ _ _ h => h) (Or.inl ⟨by rfl, ?_⟩) (by assumption) ?_; rotate_left; focus (intro w hSw; (try dsimp only at hSw); first | (go_simp; done) | (go_simp; with_reducible rfl))
  try simp only [Act.put, List.setIfInBounds_toArray, List.set_cons_zero, List.set_cons_succ]
  refine wpAnyH_take (i := 17) (v := ?_) (by simp only [List.getElem?_toArray, List.getElem?_cons_succ, List.getElem?_cons_zero]; rfl) (by kernel_rfl) (by kernel_rfl) (by kernel_rfl) (by exact fun _ _ _ h => h) (Or.inl ⟨by rfl, ?_⟩) (by assumption) ?_; rotate_left; focus (intro w hSw; (try dsimp only at hSw); first | (go_simp; done) | (go_simp; with_reducible rfl))
  try simp only [Act.put, List.setIfInBounds_toArray, List.set_cons_zero, List.set_cons_succ]
  refine wpAnyH_take (i := 18) (v := ?_) (by simp only [List.getElem?_toArray, List.getElem?_cons_succ, List.getElem?_cons_zero]; rfl) (by kernel_rfl) (by kernel_rfl) (by kernel_rfl) (by exact fun _ _ _ h => h) (Or.inl ⟨by rfl, ?_⟩) (by assumption) ?_; rotate_left; focus (intro w hSw; (try dsimp only at hSw); first | (go_simp; done) | (go_simp; with_reducible rfl))
  try simp only [Act.put, List.setIfInBounds_toArray, List.set_cons_zero, List.set_cons_succ]
  refine wpAnyH_take (i := 19) (v := ?_) (by simp only [List.getElem?_toArray, List.getElem?_cons_succ, List.getElem?_cons_zero]; rfl) (by kernel_rfl) (by kernel_rfl) (by kernel_rfl) (by exact fun _ _ _ h => h) (Or.inl ⟨by rfl, ?_⟩) (by assumption) ?_; rotate_left; focus (intro w hSw; (try dsimp only at hSw); first | (go_simp; done) | (go_simp; with_reducible rfl))
  try simp only [Act.put, List.setIfInBounds_toArray, List.set_cons_zero, List.set_cons_succ]
  refine wpAnyH_take (i := 20) (v := ?_) (by simp only [List.getElem?_toArray, List.getElem?_cons_succ, List.getElem?_cons_zero]; rfl) (by kernel_rfl) (by kernel_rfl) (by kernel_rfl) (by exact fun _ _ _ h => h) (Or.inl ⟨by rfl, ?_⟩) (by assumption) ?_; rotate_left; focus (intro w hSw; (try dsimp only at hSw); first | (go_simp; done) | (go_simp; with_reducible rfl))
  try simp only [Act.put, List.setIfInBounds_toArray, List.set_cons_zero, List.set_cons_succ]
  refine wpAnyH_done (by kernel_rfl) ?_ _
  have hb8 := hHeld.2.2.2.2.2.2.2.2.2.2.2.2.2.2.2.2.2.2.2.2.2.2.2.out
  clear DD hHeld vFKH0 FKH0 vFKH1 FKH1 vFKH2 FKH2 vFKH3 FKH3 vFKH4 FKH4 vFKH5 FKH5 vFKH6 FKH6 vFKH7 FKH7 vFKH8 FKH8 vFKH9 FKH9 vFKH10 FKH10 vFKH11 FKH11 vFKQ0 FKQ0 vFKQ1 FKQ1 vFKQ2 FKQ2 vFKQ3 FKQ3 vFKQ4 FKQ4 vFKS0 FKS0 vFKS1 FKS1 vFKS2 FKS2 vFKS3 FKS3 vFKS4 FKS4 vFKS5 FKS5 hw1
  have HC8 := Lib.hid (HC7.out.below hb8)
  have RF8 := Lib.hid (RF7.out.below hb8)
  have RD8 := Lib.hid (RD7.out.below hb8)
  have RS8 := Lib.hid (RS7.out.below hb8)
  have KH8 := Lib.hid (KH7.out.below hb8)
  have KQ8 := Lib.hid (KQ7.out.below hb8)
  have KS8 := Lib.hid (KS7.out.below hb8)
  have SR8 := Lib.hid (SR7.out.below hb8)
  have SX8 := Lib.hid (SX7.out.below hb8)
  have B8 := Lib.hid (B7.out.trans (hb8.mono B7.out.size))
  clear hb8 B7 HC7 RF7 RD7 RS7 KH7 KQ7 KS7 SR7 SX7
  have vKH0 : wq15.cell? ⟨w1.heap.size, 0, none⟩ = some (.int .i64 f.mean) := KH8.out.cell 0
  have vKH1 : wq15.cell? ⟨w1.heap.size, 1, none⟩ = some (.slice A0 f.parts.length c0) := KH8.out.cell 1
  have vKH2 : wq15.cell? ⟨w1.heap.size, 2, none⟩ = some (.slice A1 f.surges.length c1) := KH8.out.cell 2
  have vKH3 : wq15.cell? ⟨w1.heap.size, 3, none⟩ = some (.slice A2 n0 c2) := KH8.out.cell 3
  have vKH4 : wq15.cell? ⟨w1.heap.size, 4, none⟩ = some (.slice A3 n1 c3) := KH8.out.cell 4
  have vKH5 : wq15.cell? ⟨w1.heap.size, 5, none⟩ = some (.slice (some ⟨gs, os, none⟩) L c4) := KH8.out.cell 5
  have vKH6 : wq15.cell? ⟨w1.heap.size, 6, none⟩ = some (.int .i64 h.gap) := KH8.out.cell 6
  have vKH7 : wq15.cell? ⟨w1.heap.size, 7, none⟩ = some (.bool h.nm) := KH8.out.cell 7
  have vKH8 : wq15.cell? ⟨w1.heap.size, 8, none⟩ = some (.int .i64 h.tu) := KH8.out.cell 8
  have vKH9 : wq15.cell? ⟨w1.heap.size, 9, none⟩ = some (.int .i64 h.pi) := KH8.out.cell 9
  have vKH10 : wq15.cell? ⟨w1.heap.size, 10, none⟩ = some (.int .i64 h.re) := KH8.out.cell 10
  have vKH11 : wq15.cell? ⟨w1.heap.size, 11, none⟩ = some (.slice A5 64 c5) := KH8.out.cell 11
  have vKQ0 : wq15.cell? ⟨w1.heap.size + 1, 0, none⟩ = some (.int .i64 (i : Int)) := KQ8.out.cell 0
  have vKQ1 : wq15.cell? ⟨w1.heap.size + 1, 1, none⟩ = some (.int .i64 fr) := KQ8.out.cell 1
  have vKQ2 : wq15.cell? ⟨w1.heap.size + 1, 2, none⟩ = some (.int .i64 tt) := KQ8.out.cell 2
  have vKQ3 : wq15.cell? ⟨w1.heap.size + 1, 3, none⟩ = some (.int .i64 r1) := KQ8.out.cell 3
  have vKQ4 : wq15.cell? ⟨w1.heap.size + 1, 4, none⟩ = some (.int .i64 q.due) := KQ8.out.cell 4
  have vKS0 : wq15.cell? ⟨W.heap.size, 0, none⟩ = some (.string s.name) := KS8.out.cell 0
  have vKS1 : wq15.cell? ⟨W.heap.size, 1, none⟩ = some (.int .i64 s.length) := KS8.out.cell 1
  have vKS2 : wq15.cell? ⟨W.heap.size, 2, none⟩ = some (.int .i64 s.draught) := KS8.out.cell 2
  have vKS3 : wq15.cell? ⟨W.heap.size, 3, none⟩ = some (.int .i64 s.line) := KS8.out.cell 3
  have vKS4 : wq15.cell? ⟨W.heap.size, 4, none⟩ = some (.int .i64 s.tugs) := KS8.out.cell 4
  have vKS5 : wq15.cell? ⟨W.heap.size, 5, none⟩ = some (.bool s.slow) := KS8.out.cell 5
  go_wp2_with fail
  clear vKH0 vKH1 vKH2 vKH3 vKH4 vKH5 vKH6 vKH7 vKH8 vKH9 vKH10 vKH11 vKQ0 vKQ1 vKQ2 vKQ3 vKQ4 vKS0 vKS1 vKS2 vKS3 vKS4 vKS5
  refine (implShipOk s _ SW.out).mono ?_
  rw [SB.out]
  rintro e w9 ⟨rfl, hb9⟩
  have HC9 := Lib.hid (HC8.out.below hb9)
  have RF9 := Lib.hid (RF8.out.below hb9)
  have RD9 := Lib.hid (RD8.out.below hb9)
  have RS9 := Lib.hid (RS8.out.below hb9)
  have KH9 := Lib.hid (KH8.out.below hb9)
  have KQ9 := Lib.hid (KQ8.out.below hb9)
  have KS9 := Lib.hid (KS8.out.below hb9)
  have SR9 := Lib.hid (SR8.out.below hb9)
  have SX9 := Lib.hid (SX8.out.below hb9)
  have SY9 := Lib.hid (SY8.out.below hb9)
  have B9 := Lib.hid (B8.out.trans (hb9.mono B8.out.size))
  clear hb9 B8 HC8 RF8 RD8 RS8 KH8 KQ8 KS8 SR8 SX8 SY8
  have vKH0 : w9.cell? ⟨w1.heap.size, 0, none⟩ = some (.int .i64 f.mean) := KH9.out.cell 0
  have vKH1 : w9.cell? ⟨w1.heap.size, 1, none⟩ = some (.slice A0 f.parts.length c0) := KH9.out.cell 1
  have vKH2 : w9.cell? ⟨w1.heap.size, 2, none⟩ = some (.slice A1 f.surges.length c1) := KH9.out.cell 2
  have vKH3 : w9.cell? ⟨w1.heap.size, 3, none⟩ = some (.slice A2 n0 c2) := KH9.out.cell 3
  have vKH4 : w9.cell? ⟨w1.heap.size, 4, none⟩ = some (.slice A3 n1 c3) := KH9.out.cell 4
  have vKH5 : w9.cell? ⟨w1.heap.size, 5, none⟩ = some (.slice (some ⟨gs, os, none⟩) L c4) := KH9.out.cell 5
  have vKH6 : w9.cell? ⟨w1.heap.size, 6, none⟩ = some (.int .i64 h.gap) := KH9.out.cell 6
  have vKH7 : w9.cell? ⟨w1.heap.size, 7, none⟩ = some (.bool h.nm) := KH9.out.cell 7
  have vKH8 : w9.cell? ⟨w1.heap.size, 8, none⟩ = some (.int .i64 h.tu) := KH9.out.cell 8
  have vKH9 : w9.cell? ⟨w1.heap.size, 9, none⟩ = some (.int .i64 h.pi) := KH9.out.cell 9
  have vKH10 : w9.cell? ⟨w1.heap.size, 10, none⟩ = some (.int .i64 h.re) := KH9.out.cell 10
  have vKH11 : w9.cell? ⟨w1.heap.size, 11, none⟩ = some (.slice A5 64 c5) := KH9.out.cell 11
  have vKQ0 : w9.cell? ⟨w1.heap.size + 1, 0, none⟩ = some (.int .i64 (i : Int)) := KQ9.out.cell 0
  have vKQ1 : w9.cell? ⟨w1.heap.size + 1, 1, none⟩ = some (.int .i64 fr) := KQ9.out.cell 1
  have vKQ2 : w9.cell? ⟨w1.heap.size + 1, 2, none⟩ = some (.int .i64 tt) := KQ9.out.cell 2
  have vKQ3 : w9.cell? ⟨w1.heap.size + 1, 3, none⟩ = some (.int .i64 r1) := KQ9.out.cell 3
  have vKQ4 : w9.cell? ⟨w1.heap.size + 1, 4, none⟩ = some (.int .i64 q.due) := KQ9.out.cell 4
  have vKS0 : w9.cell? ⟨W.heap.size, 0, none⟩ = some (.string s.name) := KS9.out.cell 0
  have vKS1 : w9.cell? ⟨W.heap.size, 1, none⟩ = some (.int .i64 s.length) := KS9.out.cell 1
  have vKS2 : w9.cell? ⟨W.heap.size, 2, none⟩ = some (.int .i64 s.draught) := KS9.out.cell 2
  have vKS3 : w9.cell? ⟨W.heap.size, 3, none⟩ = some (.int .i64 s.line) := KS9.out.cell 3
  have vKS4 : w9.cell? ⟨W.heap.size, 4, none⟩ = some (.int .i64 s.tugs) := KS9.out.cell 4
  have vKS5 : w9.cell? ⟨W.heap.size, 5, none⟩ = some (.bool s.slow) := KS9.out.cell 5
  go_wp2_with fail
  clear vKH0 vKH1 vKH2 vKH3 vKH4 vKH5 vKH6 vKH7 vKH8 vKH9 vKH10 vKH11 vKQ0 vKQ1 vKQ2 vKQ3 vKQ4 vKS0 vKS1 vKS2 vKS3 vKS4 vKS5
  refine (implFleetOk _ fl _ RS9.out WF.out).mono ?_
  rw [FLB.out]
  rintro e w10 ⟨rfl, hb10⟩
  have HC10 := Lib.hid (HC9.out.below hb10)
  have RF10 := Lib.hid (RF9.out.below hb10)
  have RD10 := Lib.hid (RD9.out.below hb10)
  have RS10 := Lib.hid (RS9.out.below hb10)
  have KH10 := Lib.hid (KH9.out.below hb10)
  have KQ10 := Lib.hid (KQ9.out.below hb10)
  have KS10 := Lib.hid (KS9.out.below hb10)
  have SR10 := Lib.hid (SR9.out.below hb10)
  have SX10 := Lib.hid (SX9.out.below hb10)
  have SY10 := Lib.hid (SY9.out.below hb10)
  have B10 := Lib.hid (B9.out.trans (hb10.mono B9.out.size))
  clear hb10 B9 HC9 RF9 RD9 RS9 KH9 KQ9 KS9 SR9 SX9 SY9
  cases b2 with
  | false =>
    have hy0 : ny = 0 := by
      have h1 := HB2.out
      have h2 := HY.out
      cases z2 with
      | none => rw [← HNY.out, ← h2]; rfl
      | some t => cases h1
    subst hy0
    go_wp2
    go_ret
    exact ⟨rfl, B10.out⟩
  | true =>
    obtain ⟨yy, hyy⟩ : ∃ yy, z2 = some yy := Option.isSome_iff_exists.1 HB2.out
    have hyv : yy = y := by have := HY.out; rw [hyy] at this; exact this
    subst hyv
    obtain ⟨xx, hxx, lx, ly, hle⟩ := first_order H12.out (HZ2.out.trans hyy)
    have h1z : z1 = some xx := HZ1.out.symm.trans hxx
    have hxv : xx = x := by have := HX.out; rw [h1z] at this; exact this
    subst hxv
    have hb1 : b1 = true := by have := HB1.out; rw [h1z] at this; exact this.symm
    subst hb1
    have e1 : nx = nr := by have h1 := HNX.out; have h2 := HNR.out; omega
    have e2 : ny = nr := by have h1 := HNY.out; have h2 := HNR.out; omega
    subst e1 e2
    obtain ⟨a1, ha1⟩ : ∃ a1, arrI d s rt xx = a1 := ⟨_, rfl⟩
    obtain ⟨a2, ha2⟩ : ∃ a2, arrI d s rt yy = a2 := ⟨_, rfl⟩
    rw [ha1, ha2] at hle
    have HA1 := Lib.hid ha1
    have HA2 := Lib.hid ha2
    have hld : decide (a1 ≤ a2) = true := decide_eq_true hle
    clear ha1 ha2 hyy hxx lx ly h1z HB1 HB2 HZ1 HZ2 HX HY HNX HNY
    go_upto_region 12 with fail
    have FKH0 := Lib.hid (show w10.cell? ⟨w1.heap.size, 0, none⟩ = some (.int .i64 f.mean) from KH10.out.cell 0)
    have FKH1 := Lib.hid (show w10.cell? ⟨w1.heap.size, 1, none⟩ = some (.slice A0 f.parts.length c0) from KH10.out.cell 1)
    have FKH2 := Lib.hid (show w10.cell? ⟨w1.heap.size, 2, none⟩ = some (.slice A1 f.surges.length c1) from KH10.out.cell 2)
    have FKH3 := Lib.hid (show w10.cell? ⟨w1.heap.size, 3, none⟩ = some (.slice A2 n0 c2) from KH10.out.cell 3)
    have FKH4 := Lib.hid (show w10.cell? ⟨w1.heap.size, 4, none⟩ = some (.slice A3 n1 c3) from KH10.out.cell 4)
    have FKH5 := Lib.hid (show w10.cell? ⟨w1.heap.size, 5, none⟩ = some (.slice (some ⟨gs, os, none⟩) L c4) from KH10.out.cell 5)
    have FKH6 := Lib.hid (show w10.cell? ⟨w1.heap.size, 6, none⟩ = some (.int .i64 h.gap) from KH10.out.cell 6)
    have FKH7 := Lib.hid (show w10.cell? ⟨w1.heap.size, 7, none⟩ = some (.bool h.nm) from KH10.out.cell 7)
    have FKH8 := Lib.hid (show w10.cell? ⟨w1.heap.size, 8, none⟩ = some (.int .i64 h.tu) from KH10.out.cell 8)
    have FKH9 := Lib.hid (show w10.cell? ⟨w1.heap.size, 9, none⟩ = some (.int .i64 h.pi) from KH10.out.cell 9)
    have FKH10 := Lib.hid (show w10.cell? ⟨w1.heap.size, 10, none⟩ = some (.int .i64 h.re) from KH10.out.cell 10)
    have FKH11 := Lib.hid (show w10.cell? ⟨w1.heap.size, 11, none⟩ = some (.slice A5 64 c5) from KH10.out.cell 11)
    have FKQ0 := Lib.hid (show w10.cell? ⟨w1.heap.size + 1, 0, none⟩ = some (.int .i64 (i : Int)) from KQ10.out.cell 0)
    have FKQ1 := Lib.hid (show w10.cell? ⟨w1.heap.size + 1, 1, none⟩ = some (.int .i64 fr) from KQ10.out.cell 1)
    have FKQ2 := Lib.hid (show w10.cell? ⟨w1.heap.size + 1, 2, none⟩ = some (.int .i64 tt) from KQ10.out.cell 2)
    have FKQ3 := Lib.hid (show w10.cell? ⟨w1.heap.size + 1, 3, none⟩ = some (.int .i64 r1) from KQ10.out.cell 3)
    have FKQ4 := Lib.hid (show w10.cell? ⟨w1.heap.size + 1, 4, none⟩ = some (.int .i64 q.due) from KQ10.out.cell 4)
    have FKS0 := Lib.hid (show w10.cell? ⟨W.heap.size, 0, none⟩ = some (.string s.name) from KS10.out.cell 0)
    have FKS1 := Lib.hid (show w10.cell? ⟨W.heap.size, 1, none⟩ = some (.int .i64 s.length) from KS10.out.cell 1)
    have FKS2 := Lib.hid (show w10.cell? ⟨W.heap.size, 2, none⟩ = some (.int .i64 s.draught) from KS10.out.cell 2)
    have FKS3 := Lib.hid (show w10.cell? ⟨W.heap.size, 3, none⟩ = some (.int .i64 s.line) from KS10.out.cell 3)
    have FKS4 := Lib.hid (show w10.cell? ⟨W.heap.size, 4, none⟩ = some (.int .i64 s.tugs) from KS10.out.cell 4)
    have FKS5 := Lib.hid (show w10.cell? ⟨W.heap.size, 5, none⟩ = some (.bool s.slow) from KS10.out.cell 5)
    have DD := Lib.hid ((Below.refl w10.heap.size w10).drew)
    have vFKH0 := FKH0.out
    have vFKH1 := FKH1.out
    have vFKH2 := FKH2.out
    have vFKH3 := FKH3.out
    have vFKH4 := FKH4.out
    have vFKH5 := FKH5.out
    have vFKH6 := FKH6.out
    have vFKH7 := FKH7.out
    have vFKH8 := FKH8.out
    have vFKH9 := FKH9.out
    have vFKH10 := FKH10.out
    have vFKH11 := FKH11.out
    have vFKQ0 := FKQ0.out
    have vFKQ1 := FKQ1.out
    have vFKQ2 := FKQ2.out
    have vFKQ3 := FKQ3.out
    have vFKQ4 := FKQ4.out
    have vFKS0 := FKS0.out
    have vFKS1 := FKS1.out
    have vFKS2 := FKS2.out
    have vFKS3 := FKS3.out
    have vFKS4 := FKS4.out
    have vFKS5 := FKS5.out
    refine wp_region_held_drew (S := (fun w' => w'.cell? ⟨w1.heap.size, 0, none⟩ = some (.int .i64 f.mean) ∧ w'.cell? ⟨w1.heap.size, 1, none⟩ = some (.slice A0 f.parts.length c0) ∧ w'.cell? ⟨w1.heap.size, 2, none⟩ = some (.slice A1 f.surges.length c1) ∧ w'.cell? ⟨w1.heap.size, 3, none⟩ = some (.slice A2 n0 c2) ∧ w'.cell? ⟨w1.heap.size, 4, none⟩ = some (.slice A3 n1 c3) ∧ w'.cell? ⟨w1.heap.size, 5, none⟩ = some (.slice (some ⟨gs, os, none⟩) L c4) ∧ w'.cell? ⟨w1.heap.size, 6, none⟩ = some (.int .i64 h.gap) ∧ w'.cell? ⟨w1.heap.size, 7, none⟩ = some (.bool h.nm) ∧ w'.cell? ⟨w1.heap.size, 8, none⟩ = some (.int .i64 h.tu) ∧ w'.cell? ⟨w1.heap.size, 9, none⟩ = some (.int .i64 h.pi) ∧ w'.cell? ⟨w1.heap.size, 10, none⟩ = some (.int .i64 h.re) ∧ w'.cell? ⟨w1.heap.size, 11, none⟩ = some (.slice A5 64 c5) ∧ w'.cell? ⟨w1.heap.size + 1, 0, none⟩ = some (.int .i64 (i : Int)) ∧ w'.cell? ⟨w1.heap.size + 1, 1, none⟩ = some (.int .i64 fr) ∧ w'.cell? ⟨w1.heap.size + 1, 2, none⟩ = some (.int .i64 tt) ∧ w'.cell? ⟨w1.heap.size + 1, 3, none⟩ = some (.int .i64 r1) ∧ w'.cell? ⟨w1.heap.size + 1, 4, none⟩ = some (.int .i64 q.due) ∧ w'.cell? ⟨W.heap.size, 0, none⟩ = some (.string s.name) ∧ w'.cell? ⟨W.heap.size, 1, none⟩ = some (.int .i64 s.length) ∧ w'.cell? ⟨W.heap.size, 2, none⟩ = some (.int .i64 s.draught) ∧ w'.cell? ⟨W.heap.size, 3, none⟩ = some (.int .i64 s.line) ∧ w'.cell? ⟨W.heap.size, 4, none⟩ = some (.int .i64 s.tugs) ∧ w'.cell? ⟨W.heap.size, 5, none⟩ = some (.bool s.slow) ∧ Hid (Below w10.heap.size w10 w'))) (by kernel_rfl) ?_ (fun hHeld => ?_)
    · (try dsimp only); go_keep
    refine wpAnyH_take (i := 0) (v := ?_) (by simp only [List.getElem?_toArray, List.getElem?_cons_zero]; rfl) (by kernel_rfl) (by kernel_rfl) (by kernel_rfl) (by exact fun _ _ _ h => h) (Or.inl ⟨by rfl, ?_⟩) (by assumption) ?_; rotate_left; focus (intro w hSw; (try dsimp only at hSw); first | (go_simp; done) | (go_simp; with_reducible rfl))
    try simp only [Act.put, List.setIfInBounds_toArray, List.set_cons_zero, List.set_cons_succ]
    refine wpAnyH_take (i := 1) (v := ?_) (by simp only [List.getElem?_toArray, List.getElem?_cons_succ, List.getElem?_cons_zero]; rfl) (by kernel_rfl) (by kernel_rfl) (by kernel_rfl) (by exact fun _ _ _ h => h) (Or.inl ⟨by rfl, ?_⟩) (by assumption) ?_; rotate_left; focus (intro w hSw; (try dsimp only at hSw); first | (go_simp; done) | (go_simp; with_reducible rfl))
    try simp only [Act.put, List.setIfInBounds_toArray, List.set_cons_zero, List.set_cons_succ]
    refine wpAnyH_take (i := 2) (v := ?_) (by simp only [List.getElem?_toArray, List.getElem?_cons_succ, List.getElem?_cons_zero]; rfl) (by kernel_rfl) (by kernel_rfl) (by kernel_rfl) (by exact fun _ _ _ h => h) (Or.inl ⟨by rfl, ?_⟩) (by assumption) ?_; rotate_left; focus (intro w hSw; (try dsimp only at hSw); first | (go_simp; done) | (go_simp; with_reducible rfl))
    try simp only [Act.put, List.setIfInBounds_toArray, List.set_cons_zero, List.set_cons_succ]
    refine wpAnyH_take (i := 3) (v := ?_) (by simp only [List.getElem?_toArray, List.getElem?_cons_succ, List.getElem?_cons_zero]; rfl) (by kernel_rfl) (by kernel_rfl) (by kernel_rfl) (by exact fun _ _ _ h => h) (Or.inl ⟨by rfl, ?_⟩) (by assumption) ?_; rotate_left; focus (intro w hSw; (try dsimp only at hSw); first | (go_simp; done) | (go_simp; with_reducible rfl))
    try simp only [Act.put, List.setIfInBounds_toArray, List.set_cons_zero, List.set_cons_succ]
    refine wpAnyH_take (i := 4) (v := ?_) (by simp only [List.getElem?_toArray, List.getElem?_cons_succ, List.getElem?_cons_zero]; rfl) (by kernel_rfl) (by kernel_rfl) (by kernel_rfl) (by exact fun _ _ _ h => h) (Or.inl ⟨by rfl, ?_⟩) (by assumption) ?_; rotate_left; focus (intro w hSw; (try dsimp only at hSw); first | (go_simp; done) | (go_simp; with_reducible rfl))
    try simp only [Act.put, List.setIfInBounds_toArray, List.set_cons_zero, List.set_cons_succ]
    refine wpAnyH_take (i := 5) (v := ?_) (by simp only [List.getElem?_toArray, List.getElem?_cons_succ, List.getElem?_cons_zero]; rfl) (by kernel_rfl) (by kernel_rfl) (by kernel_rfl) (by exact fun _ _ _ h => h) (Or.inl ⟨by rfl, ?_⟩) (by assumption) ?_; rotate_left; focus (intro w hSw; (try dsimp only at hSw); first | (go_simp; done) | (go_simp; with_reducible rfl))
    try simp only [Act.put, List.setIfInBounds_toArray, List.set_cons_zero, List.set_cons_succ]
    refine wpAnyH_take (i := 6) (v := ?_) (by simp only [List.getElem?_toArray, List.getElem?_cons_succ, List.getElem?_cons_zero]; rfl) (by kernel_rfl) (by kernel_rfl) (by kernel_rfl) (by exact fun _ _ _ h => h) (Or.inl ⟨by rfl, ?_⟩) (by assumption) ?_; rotate_left; focus (intro w hSw; (try dsimp only at hSw); first | (go_simp; done) | (go_simp; with_reducible rfl))
    try simp only [Act.put, List.setIfInBounds_toArray, List.set_cons_zero, List.set_cons_succ]
    refine wpAnyH_take (i := 7) (v := ?_) (by simp only [List.getElem?_toArray, List.getElem?_cons_succ, List.getElem?_cons_zero]; rfl) (by kernel_rfl) (by kernel_rfl) (by kernel_rfl) (by exact fun _ _ _ h => h) (Or.inl ⟨by rfl, ?_⟩) (by assumption) ?_; rotate_left; focus (intro w hSw; (try dsimp only at hSw); first | (go_simp; done) | (go_simp; with_reducible rfl))
    try simp only [Act.put, List.setIfInBounds_toArray, List.set_cons_zero, List.set_cons_succ]
    refine wpAnyH_take (i := 8) (v := ?_) (by simp only [List.getElem?_toArray, List.getElem?_cons_succ, List.getElem?_cons_zero]; rfl) (by kernel_rfl) (by kernel_rfl) (by kernel_rfl) (by exact fun _ _ _ h => h) (Or.inl ⟨by rfl, ?_⟩) (by assumption) ?_; rotate_left; focus (intro w hSw; (try dsimp only at hSw); first | (go_simp; done) | (go_simp; with_reducible rfl))
    try simp only [Act.put, List.setIfInBounds_toArray, List.set_cons_zero, List.set_cons_succ]
    refine wpAnyH_take (i := 9) (v := ?_) (by simp only [List.getElem?_toArray, List.getElem?_cons_succ, List.getElem?_cons_zero]; rfl) (by kernel_rfl) (by kernel_rfl) (by kernel_rfl) (by exact fun _ _ _ h => h) (Or.inl ⟨by rfl, ?_⟩) (by assumption) ?_; rotate_left; focus (intro w hSw; (try dsimp only at hSw); first | (go_simp; done) | (go_simp; with_reducible rfl))
    try simp only [Act.put, List.setIfInBounds_toArray, List.set_cons_zero, List.set_cons_succ]
    refine wpAnyH_take (i := 10) (v := ?_) (by simp only [List.getElem?_toArray, List.getElem?_cons_succ, List.getElem?_cons_zero]; rfl) (by kernel_rfl) (by kernel_rfl) (by kernel_rfl) (by exact fun _ _ _ h => h) (Or.inl ⟨by rfl, ?_⟩) (by assumption) ?_; rotate_left; focus (intro w hSw; (try dsimp only at hSw); first | (go_simp; done) | (go_simp; with_reducible rfl))
    try simp only [Act.put, List.setIfInBounds_toArray, List.set_cons_zero, List.set_cons_succ]
    refine wpAnyH_take (i := 11) (v := ?_) (by simp only [List.getElem?_toArray, List.getElem?_cons_succ, List.getElem?_cons_zero]; rfl) (by kernel_rfl) (by kernel_rfl) (by kernel_rfl) (by exact fun _ _ _ h => h) (Or.inl ⟨by rfl, ?_⟩) (by assumption) ?_; rotate_left; focus (intro w hSw; (try dsimp only at hSw); first | (go_simp; done) | (go_simp; with_reducible rfl))
    try simp only [Act.put, List.setIfInBounds_toArray, List.set_cons_zero, List.set_cons_succ]
    refine wpAnyH_take (i := 12) (v := ?_) (by simp only [List.getElem?_toArray, List.getElem?_cons_succ, List.getElem?_cons_zero]; rfl) (by kernel_rfl) (by kernel_rfl) (by kernel_rfl) (by exact fun _ _ _ h => h) (Or.inl ⟨by rfl, ?_⟩) (by assumption) ?_; rotate_left; focus (intro w hSw; (try dsimp only at hSw); first | (go_simp; done) | (go_simp; with_reducible rfl))
    try simp only [Act.put, List.setIfInBounds_toArray, List.set_cons_zero, List.set_cons_succ]
    refine wpAnyH_take (i := 13) (v := ?_) (by simp only [List.getElem?_toArray, List.getElem?_cons_succ, List.getElem?_cons_zero]; rfl) (by kernel_rfl) (by kernel_rfl) (by kernel_rfl) (by exact fun _ _ _ h => h) (Or.inl ⟨by rfl, ?_⟩) (by assumption) ?_; rotate_left; focus (intro w hSw; (try dsimp only at hSw); first | (go_simp; done) | (go_simp; with_reducible rfl))
    try simp only [Act.put, List.setIfInBounds_toArray, List.set_cons_zero, List.set_cons_succ]
    refine wpAnyH_take (i := 14) (v := ?_) (by simp only [List.getElem?_toArray, List.getElem?_cons_succ, List.getElem?_cons_zero]; rfl) (by kernel_rfl) (by kernel_rfl) (by kernel_rfl) (by exact fun _ _ _ h => h) (Or.inl ⟨by rfl, ?_⟩) (by assumption) ?_; rotate_left; focus (intro w hSw; (try dsimp only at hSw); first | (go_simp; done) | (go_simp; with_reducible rfl))
    try simp only [Act.put, List.setIfInBounds_toArray, List.set_cons_zero, List.set_cons_succ]
    refine wpAnyH_take (i := 15) (v := ?_) (by simp only [List.getElem?_toArray, List.getElem?_cons_succ, List.getElem?_cons_zero]; rfl) (by kernel_rfl) (by kernel_rfl) (by kernel_rfl) (by exact fun _ _ _ h => h) (Or.inl ⟨by rfl, ?_⟩) (by assumption) ?_; rotate_left; focus (intro w hSw; (try dsimp only at hSw); first | (go_simp; done) | (go_simp; with_reducible rfl))
    try simp only [Act.put, List.setIfInBounds_toArray, List.set_cons_zero, List.set_cons_succ]
    refine wpAnyH_take (i := 16) (v := ?_) (by simp only [List.getElem?_toArray, List.getElem?_cons_succ, List.getElem?_cons_zero]; rfl) (by kernel_rfl) (by kernel_rfl) (by kernel_rfl) (by exact fun _ _ _ h => h) (Or.inl ⟨by rfl, ?_⟩) (by assumption) ?_; rotate_left; focus (intro w hSw; (try dsimp only at hSw); first | (go_simp; done) | (go_simp; with_reducible rfl))
    try simp only [Act.put, List.setIfInBounds_toArray, List.set_cons_zero, List.set_cons_succ]
    refine wpAnyH_take (i := 17) (v := ?_) (by simp only [List.getElem?_toArray, List.getElem?_cons_succ, List.getElem?_cons_zero]; rfl) (by kernel_rfl) (by kernel_rfl) (by kernel_rfl) (by exact fun _ _ _ h => h) (Or.inl ⟨by rfl, ?_⟩) (by assumption) ?_; rotate_left; focus (intro w hSw; (try dsimp only at hSw); first | (go_simp; done) | (go_simp; with_reducible rfl))
    try simp only [Act.put, List.setIfInBounds_toArray, List.set_cons_zero, List.set_cons_succ]
    refine wpAnyH_take (i := 18) (v := ?_) (by simp only [List.getElem?_toArray, List.getElem?_cons_succ, List.getElem?_cons_zero]; rfl) (by kernel_rfl) (by kernel_rfl) (by kernel_rfl) (by exact fun _ _ _ h => h) (Or.inl ⟨by rfl, ?_⟩) (by assumption) ?_; rotate_left; focus (intro w hSw; (try dsimp only at hSw); first | (go_simp; done) | (go_simp; with_reducible rfl))
    try simp only [Act.put, List.setIfInBounds_toArray, List.set_cons_zero, List.set_cons_succ]
    refine wpAnyH_take (i := 19) (v := ?_) (by simp only [List.getElem?_toArray, List.getElem?_cons_succ, List.getElem?_cons_zero]; rfl) (by kernel_rfl) (by kernel_rfl) (by kernel_rfl) (by exact fun _ _ _ h => h) (Or.inl ⟨by rfl, ?_⟩) (by assumption) ?_; rotate_left; focus (intro w hSw; (try dsimp only at hSw); first | (go_simp; done) | (go_simp; with_reducible rfl))
    try simp only [Act.put, List.setIfInBounds_toArray, List.set_cons_zero, List.set_cons_succ]
    refine wpAnyH_take (i := 20) (v := ?_) (by simp only [List.getElem?_toArray, List.getElem?_cons_succ, List.getElem?_cons_zero]; rfl) (by kernel_rfl) (by kernel_rfl) (by kernel_rfl) (by exact fun _ _ _ h => h) (Or.inl ⟨by rfl, ?_⟩) (by assumption) ?_; rotate_left; focus (intro w hSw; (try dsimp only at hSw); first | (go_simp; done) | (go_simp; with_reducible rfl))
    try simp only [Act.put, List.setIfInBounds_toArray, List.set_cons_zero, List.set_cons_succ]
    refine wpAnyH_take (i := 22) (v := ?_) (by simp only [List.getElem?_toArray, List.getElem?_cons_succ, List.getElem?_cons_zero]; rfl) (by kernel_rfl) (by kernel_rfl) (by kernel_rfl) (by exact fun _ _ _ h => h) (Or.inl ⟨by rfl, ?_⟩) (by assumption) ?_; rotate_left; focus (intro w hSw; (try dsimp only at hSw); first | (go_simp; done) | (go_simp; with_reducible rfl))
    try simp only [Act.put, List.setIfInBounds_toArray, List.set_cons_zero, List.set_cons_succ]
    refine wpAnyH_take (i := 23) (v := ?_) (by simp only [List.getElem?_toArray, List.getElem?_cons_succ, List.getElem?_cons_zero]; rfl) (by kernel_rfl) (by kernel_rfl) (by kernel_rfl) (by exact fun _ _ _ h => h) (Or.inl ⟨by rfl, ?_⟩) (by assumption) ?_; rotate_left; focus (intro w hSw; (try dsimp only at hSw); first | (go_simp; done) | (go_simp; with_reducible rfl))
    try simp only [Act.put, List.setIfInBounds_toArray, List.set_cons_zero, List.set_cons_succ]
    refine wpAnyH_take (i := 24) (v := ?_) (by simp only [List.getElem?_toArray, List.getElem?_cons_succ, List.getElem?_cons_zero]; rfl) (by kernel_rfl) (by kernel_rfl) (by kernel_rfl) (by exact fun _ _ _ h => h) (Or.inl ⟨by rfl, ?_⟩) (by assumption) ?_; rotate_left; focus (intro w hSw; (try dsimp only at hSw); first | (go_simp; done) | (go_simp; with_reducible rfl))
    try simp only [Act.put, List.setIfInBounds_toArray, List.set_cons_zero, List.set_cons_succ]
    refine wpAnyH_take (i := 25) (v := ?_) (by simp only [List.getElem?_toArray, List.getElem?_cons_succ, List.getElem?_cons_zero]; rfl) (by kernel_rfl) (by kernel_rfl) (by kernel_rfl) (by exact fun _ _ _ h => h) (Or.inl ⟨by rfl, ?_⟩) (by assumption) ?_; rotate_left; focus (intro w hSw; (try dsimp only at hSw); first | (go_simp; done) | (go_simp; with_reducible rfl))
    try simp only [Act.put, List.setIfInBounds_toArray, List.set_cons_zero, List.set_cons_succ]
    refine wpAnyH_take (i := 26) (v := ?_) (by simp only [List.getElem?_toArray, List.getElem?_cons_succ, List.getElem?_cons_zero]; rfl) (by kernel_rfl) (by kernel_rfl) (by kernel_rfl) (by exact fun _ _ _ h => h) (Or.inl ⟨by rfl, ?_⟩) (by assumption) ?_; rotate_left; focus (intro w hSw; (try dsimp only at hSw); first | (go_simp; done) | (go_simp; with_reducible rfl))
    try simp only [Act.put, List.setIfInBounds_toArray, List.set_cons_zero, List.set_cons_succ]
    refine wpAnyH_ready (rs := [21]) (by kernel_rfl) (by simp) ?_
    refine AllReadyH.cons rfl (fun K hK => ?_) AllReadyH.nil
    rw [if_pos (by rfl)]
    go_simp
    go_at_call 14
    have kB := hHeld.2.2.2.2.2.2.2.2.2.2.2.2.2.2.2.2.2.2.2.2.2.2.2
    refine (implArrivalOf _ _ d s _ rt _ xx _ (RD10.out.below kB.out) (SR10.out.below kB.out) (SX10.out.below kB.out) NM.out SW.out).mono ?_
    rw [HA1.out]
    rintro e wq21 ⟨rfl, hbk⟩
    have HBK := kB.out.trans (hbk.mono kB.out.size)
    have QS := Lib.hid (show wq21.cell? ⟨w1.heap.size, 0, none⟩ = some (.int .i64 f.mean) ∧ wq21.cell? ⟨w1.heap.size, 1, none⟩ = some (.slice A0 f.parts.length c0) ∧ wq21.cell? ⟨w1.heap.size, 2, none⟩ = some (.slice A1 f.surges.length c1) ∧ wq21.cell? ⟨w1.heap.size, 3, none⟩ = some (.slice A2 n0 c2) ∧ wq21.cell? ⟨w1.heap.size, 4, none⟩ = some (.slice A3 n1 c3) ∧ wq21.cell? ⟨w1.heap.size, 5, none⟩ = some (.slice (some ⟨gs, os, none⟩) L c4) ∧ wq21.cell? ⟨w1.heap.size, 6, none⟩ = some (.int .i64 h.gap) ∧ wq21.cell? ⟨w1.heap.size, 7, none⟩ = some (.bool h.nm) ∧ wq21.cell? ⟨w1.heap.size, 8, none⟩ = some (.int .i64 h.tu) ∧ wq21.cell? ⟨w1.heap.size, 9, none⟩ = some (.int .i64 h.pi) ∧ wq21.cell? ⟨w1.heap.size, 10, none⟩ = some (.int .i64 h.re) ∧ wq21.cell? ⟨w1.heap.size, 11, none⟩ = some (.slice A5 64 c5) ∧ wq21.cell? ⟨w1.heap.size + 1, 0, none⟩ = some (.int .i64 (i : Int)) ∧ wq21.cell? ⟨w1.heap.size + 1, 1, none⟩ = some (.int .i64 fr) ∧ wq21.cell? ⟨w1.heap.size + 1, 2, none⟩ = some (.int .i64 tt) ∧ wq21.cell? ⟨w1.heap.size + 1, 3, none⟩ = some (.int .i64 r1) ∧ wq21.cell? ⟨w1.heap.size + 1, 4, none⟩ = some (.int .i64 q.due) ∧ wq21.cell? ⟨W.heap.size, 0, none⟩ = some (.string s.name) ∧ wq21.cell? ⟨W.heap.size, 1, none⟩ = some (.int .i64 s.length) ∧ wq21.cell? ⟨W.heap.size, 2, none⟩ = some (.int .i64 s.draught) ∧ wq21.cell? ⟨W.heap.size, 3, none⟩ = some (.int .i64 s.line) ∧ wq21.cell? ⟨W.heap.size, 4, none⟩ = some (.int .i64 s.tugs) ∧ wq21.cell? ⟨W.heap.size, 5, none⟩ = some (.bool s.slow) ∧ Hid (Below w10.heap.size w10 wq21) from ⟨cell_onV FKH0.out HBK, cell_onV FKH1.out HBK, cell_onV FKH2.out HBK, cell_onV FKH3.out HBK, cell_onV FKH4.out HBK, cell_onV FKH5.out HBK, cell_onV FKH6.out HBK, cell_onV FKH7.out HBK, cell_onV FKH8.out HBK, cell_onV FKH9.out HBK, cell_onV FKH10.out HBK, cell_onV FKH11.out HBK, cell_onV FKQ0.out HBK, cell_onV FKQ1.out HBK, cell_onV FKQ2.out HBK, cell_onV FKQ3.out HBK, cell_onV FKQ4.out HBK, cell_onV FKS0.out HBK, cell_onV FKS1.out HBK, cell_onV FKS2.out HBK, cell_onV FKS3.out HBK, cell_onV FKS4.out HBK, cell_onV FKS5.out HBK, Lib.hid HBK⟩)
    clear hbk kB hHeld HBK
    go_simp
    refine hK.out _ _ ?_ (fun hHeld => ?_)
    · (try dsimp only); exact QS.out
    clear hK K
    try simp only [Act.put, List.setIfInBounds_toArray, List.set_cons_zero, List.set_cons_succ]
    refine wpAnyH_ready (rs := [27]) (by kernel_rfl) (by simp) ?_
    refine AllReadyH.cons rfl (fun K hK => ?_) AllReadyH.nil
    rw [if_pos (by rfl)]
    go_simp
    go_at_call 14
    have kB := hHeld.2.2.2.2.2.2.2.2.2.2.2.2.2.2.2.2.2.2.2.2.2.2.2
    refine (implArrivalOf _ _ d s _ rt _ yy _ (RD10.out.below kB.out) (SR10.out.below kB.out) (SY10.out.below kB.out) NM.out SW.out).mono ?_
    rw [HA2.out]
    rintro e wq27 ⟨rfl, hbk⟩
    have HBK := kB.out.trans (hbk.mono kB.out.size)
    have QS := Lib.hid (show wq27.cell? ⟨w1.heap.size, 0, none⟩ = some (.int .i64 f.mean) ∧ wq27.cell? ⟨w1.heap.size, 1, none⟩ = some (.slice A0 f.parts.length c0) ∧ wq27.cell? ⟨w1.heap.size, 2, none⟩ = some (.slice A1 f.surges.length c1) ∧ wq27.cell? ⟨w1.heap.size, 3, none⟩ = some (.slice A2 n0 c2) ∧ wq27.cell? ⟨w1.heap.size, 4, none⟩ = some (.slice A3 n1 c3) ∧ wq27.cell? ⟨w1.heap.size, 5, none⟩ = some (.slice (some ⟨gs, os, none⟩) L c4) ∧ wq27.cell? ⟨w1.heap.size, 6, none⟩ = some (.int .i64 h.gap) ∧ wq27.cell? ⟨w1.heap.size, 7, none⟩ = some (.bool h.nm) ∧ wq27.cell? ⟨w1.heap.size, 8, none⟩ = some (.int .i64 h.tu) ∧ wq27.cell? ⟨w1.heap.size, 9, none⟩ = some (.int .i64 h.pi) ∧ wq27.cell? ⟨w1.heap.size, 10, none⟩ = some (.int .i64 h.re) ∧ wq27.cell? ⟨w1.heap.size, 11, none⟩ = some (.slice A5 64 c5) ∧ wq27.cell? ⟨w1.heap.size + 1, 0, none⟩ = some (.int .i64 (i : Int)) ∧ wq27.cell? ⟨w1.heap.size + 1, 1, none⟩ = some (.int .i64 fr) ∧ wq27.cell? ⟨w1.heap.size + 1, 2, none⟩ = some (.int .i64 tt) ∧ wq27.cell? ⟨w1.heap.size + 1, 3, none⟩ = some (.int .i64 r1) ∧ wq27.cell? ⟨w1.heap.size + 1, 4, none⟩ = some (.int .i64 q.due) ∧ wq27.cell? ⟨W.heap.size, 0, none⟩ = some (.string s.name) ∧ wq27.cell? ⟨W.heap.size, 1, none⟩ = some (.int .i64 s.length) ∧ wq27.cell? ⟨W.heap.size, 2, none⟩ = some (.int .i64 s.draught) ∧ wq27.cell? ⟨W.heap.size, 3, none⟩ = some (.int .i64 s.line) ∧ wq27.cell? ⟨W.heap.size, 4, none⟩ = some (.int .i64 s.tugs) ∧ wq27.cell? ⟨W.heap.size, 5, none⟩ = some (.bool s.slow) ∧ Hid (Below w10.heap.size w10 wq27) from ⟨cell_onV FKH0.out HBK, cell_onV FKH1.out HBK, cell_onV FKH2.out HBK, cell_onV FKH3.out HBK, cell_onV FKH4.out HBK, cell_onV FKH5.out HBK, cell_onV FKH6.out HBK, cell_onV FKH7.out HBK, cell_onV FKH8.out HBK, cell_onV FKH9.out HBK, cell_onV FKH10.out HBK, cell_onV FKH11.out HBK, cell_onV FKQ0.out HBK, cell_onV FKQ1.out HBK, cell_onV FKQ2.out HBK, cell_onV FKQ3.out HBK, cell_onV FKQ4.out HBK, cell_onV FKS0.out HBK, cell_onV FKS1.out HBK, cell_onV FKS2.out HBK, cell_onV FKS3.out HBK, cell_onV FKS4.out HBK, cell_onV FKS5.out HBK, Lib.hid HBK⟩)
    clear hbk kB hHeld HBK
    go_simp
    refine hK.out _ _ ?_ (fun hHeld => ?_)
    · (try dsimp only); exact QS.out
    clear hK K
    try simp only [Act.put, List.setIfInBounds_toArray, List.set_cons_zero, List.set_cons_succ]
    refine wpAnyH_take (i := 28) (v := ?_) (by simp only [List.getElem?_toArray, List.getElem?_cons_succ, List.getElem?_cons_zero]; rfl) (by kernel_rfl) (by kernel_rfl) (by kernel_rfl) (by exact fun _ _ _ h => h) (Or.inl ⟨by rfl, ?_⟩) (by assumption) ?_; rotate_left; focus (intro w hSw; (try dsimp only at hSw); first | (go_simp; done) | (go_simp; with_reducible rfl))
    try simp only [Act.put, List.setIfInBounds_toArray, List.set_cons_zero, List.set_cons_succ]
    refine wpAnyH_take (i := 29) (v := ?_) (by simp only [List.getElem?_toArray, List.getElem?_cons_succ, List.getElem?_cons_zero]; rfl) (by kernel_rfl) (by kernel_rfl) (by kernel_rfl) (by exact fun _ _ _ h => h) (Or.inl ⟨by rfl, ?_⟩) (by assumption) ?_; rotate_left; focus (intro w hSw; (try dsimp only at hSw); first | (go_simp; done) | (go_simp; with_reducible rfl))
    try simp only [Act.put, List.setIfInBounds_toArray, List.set_cons_zero, List.set_cons_succ]
    refine wpAnyH_take (i := 30) (v := ?_) (by simp only [List.getElem?_toArray, List.getElem?_cons_succ, List.getElem?_cons_zero]; rfl) (by kernel_rfl) (by kernel_rfl) (by kernel_rfl) (by exact fun _ _ _ h => h) (Or.inl ⟨by rfl, ?_⟩) (by assumption) ?_; rotate_left; focus (intro w hSw; (try dsimp only at hSw); first | (go_simp; done) | (go_simp; with_reducible rfl))
    try simp only [Act.put, List.setIfInBounds_toArray, List.set_cons_zero, List.set_cons_succ]
    refine wpAnyH_done (by kernel_rfl) ?_ _
    go_wp2
    go_ret
    exact ⟨rfl, B10.out.trans (hHeld.2.2.2.2.2.2.2.2.2.2.2.2.2.2.2.2.2.2.2.2.2.2.2.out.mono B10.out.size)⟩
set_option maxRecDepth 100000 in
theorem lifted (os : Os) (started : os.Started) (H : Type) (enc : TypeId × Value → H) :
    ReturnsInHanded {} Try.checked os 3 .any (Rows.fnInOrderSpec.pre6 enc Try.prog Try.f3 Rows.fnInOrderRow.domain false) (Rows.fnInOrderSpec.post enc Try.prog Try.f3 false true false false) := by
  refine returnsInHanded_of_change (C := Try.checked) own started (by kernel_rfl) Try.func3
    (ChangeSpec.witness6 (enc := enc) (C := Try.checked) false ⟨#[], #[.slice none 0 0], []⟩ 8 (by kernel_rfl) (by kernel_rfl) (by kernel_rfl) (by kernel_rfl)) ?_
  intro W base args ds gs before hval0 hW _ _
  have hval : ∀ (j : Nat) t v, Try.f3.params[j]? = some t → args[j]? = some v → Value.okWide Try.prog W .any base t v := hval0
  have hW' := hW
  obtain ⟨p, q, hA0, hV, rfl, _, _⟩ := hW
  have hA : DataW.TrodAll enc Try.prog W 0 (fun _ => true) true Try.f3.params.toList args.toList ds p := hA0
  rw [Try.params3] at hA hval
  obtain ⟨v0, vs0, d0, ds0, p0, q0, hargs, rfl, rfl, h0, r0⟩ := trodAll_cons hA
  obtain ⟨rfl, rfl, rfl⟩ := trodAll_nil r0
  obtain rfl : args = #[v0] := by cases args; simp_all
  obtain ⟨A0, n0, c0, rfl, g0⟩ := open_code_arg (hval 0 22 v0 rfl rfl) h0
  refine (law A0 n0 c0 W g0).mono fun e W' ⟨he, hb⟩ => ⟨_, he, ?_⟩
  exact law_post laidOut (by kernel_rfl) rfl (by kernel_rfl) Try.underlying4 rfl rfl rfl hW' hb
theorem holds : Rows.FnInOrderSaid :=
  OpenClaim.holds_of_wide 3 Try.f3 rfl rfl rfl rfl rfl rfl rfl ⟨rfl, rfl, rfl, rfl, rfl⟩ rfl rfl rfl rfl rfl (by kernel_rfl) Try.func3 (by kernel_rfl)
    (of_decide_eq_true (by kernel_rfl)) (by unfold Func.isWrapper; first | (rw [if_pos (by decide +kernel)]; kernel_rfl) | (rw [if_neg (by decide +kernel)]; exact ⟨rfl, rfl⟩))
    (fun os started H enc _ => lifted os started H enc)
end Go.Proofs.Ytooeikimoheecaa.lawInOrder
