
/- FnFleets holds for every code: ships are found by name and line. No condition. -/
import Derived.Test.YtgjappjlnkdpnaaRows
import Derived.Test.YtgjappjlnkdpnaaCodeArg
import Derived.Test.YtgjappjlnkdpnaaKit
import Derived.Test.YtgjappjlnkdpnaaDrawCase
import Derived.Test.YtgjappjlnkdpnaaFleetFns
namespace Go.Proofs.Ytgjappjlnkdpnaa.lawFleets
open Go.ChangeShapes Go.WideShapes Go.ChangeAt Go.RowKit
set_option maxRecDepth 100000

theorem own : ownKnob Try.prog.godebug = none := by kernel_rfl
theorem laidOut : laidOutB Try.prog = true := by kernel_rfl

def FleetGood (l : List ShipD) : Prop := 1 ≤ l.length ∧ l.length ≤ 3 ∧ ∀ (j : Nat) x, l[j]? = some x → shipGood j x ∧ x.tugs ≤ 1
theorem fleet_ok {l : List ShipD} (h : FleetGood l) : fleetB l = true := by
  obtain ⟨h1, h3, hg⟩ := h
  refine fleetB_mk (by omega) (fun j hj => ?_)
  have hx : l[j]? = some l[j] := List.getElem?_eq_getElem hj
  obtain ⟨⟨n1, n2, n3, n4, n5, n6, n7, n8, n9⟩, n10⟩ := hg j _ hx
  have hs : shipB l[j] = true := by
    unfold shipB
    rw [n1, names_digit j (by omega), inB_mk (by omega) (by omega), inB_mk (by omega) (by omega), inB_mk (by omega) (by omega), inB_mk (by omega) (by omega)]
    rfl
  have hi : shipI l l[j].name = (j : Int) := by
    refine firstI_at (k := j) (x := l[j]) (fun i hi y hy => ?_) hx (by simp [shipNm])
    have hiy := (hg i y hy).1.1
    show (y.name.toList == l[j].name.toList) = false
    rw [hiy, n1]
    exact names_apart i j (by omega) (by omega) (by omega)
  rw [flAt_at hx, hs, hi]
  simp
theorem idxF_mem {α : Type} {p : α → Bool} {l : List α} {i : Int} : ∀ {k : Nat}, i ∈ idxF p l k → ∃ (j : Nat) (x : α), i = (j : Int) ∧ l[j]? = some x ∧ p x = true := by
  intro k
  induction k with
  | zero => intro h; simp [idxF] at h
  | succ k ih =>
    intro h
    unfold idxF at h
    rcases List.mem_append.1 h with h | h
    · exact ih h
    · cases hx : l[k]? with
      | none => rw [hx] at h; simp at h
      | some x =>
        rw [hx] at h
        simp only at h
        split at h
        · simp at h; exact ⟨k, x, h, hx, by assumption⟩
        · simp at h
theorem line_mem {l : List ShipD} (h : FleetGood l) {n i : Int} (hi : i ∈ lineL l n) : ∃ (j : Nat) (x : ShipD), i = (j : Int) ∧ l[j]? = some x ∧ x.line = n := by
  rw [lineL_ok (fleet_ok h)] at hi
  obtain ⟨j, x, h1, h2, h3⟩ := idxF_mem hi
  exact ⟨j, x, h1, h2, by simpa [onLine] using h3⟩
/-- How many ships have a line below k. -/
def cntL (l : List ShipD) : Nat → Int
  | 0 => 0
  | k + 1 => cntL l k + ((lineL l (k : Int)).length : Int)
theorem line_len {l : List ShipD} (h : FleetGood l) (n : Int) : (lineL l n).length ≤ 3 := by
  rw [lineL_ok (fleet_ok h)]
  have := idxF_len (onLine n) l l.length
  have := h.2.1
  omega
theorem cnt_bnd {l : List ShipD} (h : FleetGood l) : ∀ k : Nat, 0 ≤ cntL l k ∧ cntL l k ≤ 3 * k := by
  intro k
  induction k with
  | zero => simp [cntL]
  | succ k ih => have := line_len h (k : Int); simp only [cntL]; omega
theorem cnt_all {l : List ShipD} (h : FleetGood l) : cntL l 4 = (l.length : Int) := by
  have key : ∀ k : Nat, k ≤ l.length → (idxF (onLine 0) l k).length + (idxF (onLine 1) l k).length + (idxF (onLine 2) l k).length + (idxF (onLine 3) l k).length = k := by
    intro k
    induction k with
    | zero => intro _; rfl
    | succ k ih =>
      intro hk
      have hx : l[k]? = some l[k] := List.getElem?_eq_getElem (by omega)
      obtain ⟨⟨_, _, _, _, _, l0, l4, _⟩, _⟩ := h.2.2 k _ hx
      have ih' := ih (by omega)
      have st : ∀ n : Int, (idxF (onLine n) l (k + 1)).length = (idxF (onLine n) l k).length + (if l[k].line = n then 1 else 0) := by
        intro n
        by_cases e : l[k].line = n
        · rw [idxF_yes hx (by simp [onLine, e]), if_pos e]; simp
        · rw [idxF_no hx (by simp [onLine, e]), if_neg e]; rfl
      rw [st 0, st 1, st 2, st 3]
      have : l[k].line = 0 ∨ l[k].line = 1 ∨ l[k].line = 2 ∨ l[k].line = 3 := by omega
      rcases this with e | e | e | e <;> simp [e] <;> omega
  have hk := key l.length (Nat.le_refl _)
  have ok := fleet_ok h
  have e : cntL l 4 = 0 + ((lineL l ((0 : Nat) : Int)).length : Int) + ((lineL l ((1 : Nat) : Int)).length : Int) + ((lineL l ((2 : Nat) : Int)).length : Int) + ((lineL l ((3 : Nat) : Int)).length : Int) := rfl
  rw [e, lineL_ok ok, lineL_ok ok, lineL_ok ok, lineL_ok ok]
  have c0 : (((0 : Nat) : Int)) = 0 := rfl
  have c1 : (((1 : Nat) : Int)) = 1 := rfl
  have c2 : (((2 : Nat) : Int)) = 2 := rfl
  have c3 : (((3 : Nat) : Int)) = 3 := rfl
  rw [c0, c1, c2, c3]
  omega

set_option maxHeartbeats 8000000 in
theorem law (A : Option Addr) (n c : Nat) (w : World) (hcode : n ≤ maxLen ∧ (n ≤ 1048576 → CodeAt w A n)) :
    Calls Try.prog 4 #[.slice A n c] w fun e w' => e = .returned (.bool true) ∧ Below w.heap.size w w' := by
  obtain ⟨hn, hcode⟩ := hcode
  have HC := Lib.hid hcode
  clear hcode
  unfold maxLen at hn
  by_cases hbig : 1048576 < n
  · go_enter Try.func4, Try.ntmps4
    go_wp2
    go_ret
    exact ⟨rfl, Below.refl _ _⟩
  have HC0 := Lib.hid (HC.out (by omega))
  clear HC
  go_enter Try.func4, Try.ntmps4
  go_wp2_with fail
  refine (makeCalls_any A n c w HC0.out).mono ?_
  rintro e w1 ⟨h, A0, c0, A1, c1, A2, c2, A3, c3, A4, c4, A5, c5, C, cc, cl, hok, hto, rfl, hown, hoc, hb1⟩
  have hfg : FleetGood h.fl := ⟨hok.2.2.2.1.1, hok.2.2.2.1.2, hok.2.2.2.2.1⟩
  obtain ⟨fl, hfl⟩ : ∃ fl, h.fl = fl := ⟨_, rfl⟩
  have hsl := own_sl shipLen hown.2 (by have := hfg.2.1; omega)
  have hwf : ∀ x ∈ h.fl, ShipD.wf x := by
    intro x hx
    obtain ⟨j, hj⟩ := List.getElem?_of_mem hx
    obtain ⟨⟨n1, n2, n3, n4, n5, n6, n7, n8, n9⟩, n10⟩ := hfg.2.2 j x hj
    have hz : (shipName j).size = 2 := by unfold shipName; rw [ByteArray.size_append, strOfNums_size]; rfl
    refine ⟨by rw [n1, hz]; unfold maxLen; omega, ?_, ?_, ?_, ?_⟩ <;> exact WalkArith.wf_i64 (by omega)
  rw [hfl] at hfg hsl hwf ⊢
  obtain ⟨L, hL⟩ : ∃ L, fl.length = L := ⟨_, rfl⟩
  have hL1 : 1 ≤ L := by have := hfg.1; omega
  have hL3 : L ≤ 3 := by have := hfg.2.1; omega
  have HFG := Lib.hid hfg
  have HWF := Lib.hid hwf
  have HLN := Lib.hid hL
  have hal := Joins.below_alloc1 w1 (.cells #[.int .i64 h.m, .slice A0 h.l.length c0, .slice A1 h.s.length c1, .slice A2 h.ch.chart.points.length c2, .slice A3 h.ch.chart.segs.length c3, .slice A4 L c4, .int .i64 h.gap, .bool h.nm, .int .i64 h.tu, .int .i64 h.pi, .int .i64 h.re, .slice A5 64 c5] 55)
  have SF := Lib.hid (SlOf.below hsl hal)
  have KX := Lib.hid (Blk.new w1 #[.int .i64 h.m, .slice A0 h.l.length c0, .slice A1 h.s.length c1, .slice A2 h.ch.chart.points.length c2, .slice A3 h.ch.chart.segs.length c3, .slice A4 L c4, .int .i64 h.gap, .bool h.nm, .int .i64 h.tu, .int .i64 h.pi, .int .i64 h.re, .slice A5 64 c5] 55)
  have B1 := Lib.hid (hb1.trans (hal.mono hb1.size))
  rw [hL] at SF ⊢
  obtain ⟨W, hW⟩ : ∃ W, W = w1.alloc (.cells #[.int .i64 h.m, .slice A0 h.l.length c0, .slice A1 h.s.length c1, .slice A2 h.ch.chart.points.length c2, .slice A3 h.ch.chart.segs.length c3, .slice A4 L c4, .int .i64 h.gap, .bool h.nm, .int .i64 h.tu, .int .i64 h.pi, .int .i64 h.re, .slice A5 64 c5] 55) := ⟨_, rfl⟩
  rw [← hW] at SF KX B1
  have HW := Lib.hid hW
  obtain ⟨nc, hnc⟩ : ∃ nc, cl.length = nc := ⟨_, rfl⟩
  rw [hnc]
  clear hnc hW hal hL hfl hsl hwf hfg hok hto hown hoc hb1 HC0
  go_wp2
  rw [← HW.out]
  clear HW
  go_loopw [5, 6] (fun q i wr => ∃ k : Nat, k ≤ 4 ∧ i = .int .i64 k ∧ q = .int .i64 (cntL fl k) ∧ Hid (Below W.heap.size W wr)) (fun _ i _ => 4 - (intOf i).toNat)
  case atStart => exact ⟨0, by omega, rfl, rfl, Lib.hid (Below.refl _ _)⟩
  case round =>
    obtain ⟨k, hk, rfl, rfl, hB⟩ := hrel
    obtain ⟨wo, rfl⟩ : ∃ X, X = wr := ⟨_, rfl⟩
    by_cases hlt : k < 4
    · obtain ⟨b0, b1⟩ := cnt_bnd HFG.out k
      obtain ⟨ck, hck⟩ : ∃ ck, cntL fl k = ck := ⟨_, rfl⟩
      have c5 : wo.cell? ⟨w1.heap.size, 5, none⟩ = some (.slice A4 L c4) := (KX.out.below hB.out).cell 5
      rw [hck] at b0 b1 ⊢
      have HCK := Lib.hid hck
      have hki : (k : Int) < 4 := by omega
      clear hck
      go_wp2_with fail
      refine (implOfLine _ fl (k : Int) _ (SF.out.below hB.out) HWF.out).mono ?_
      rintro e w2 ⟨v, rfl, ho, hb2⟩
      have hRl := line_len HFG.out (k : Int)
      obtain ⟨R, hR⟩ : ∃ R, lineL fl (k : Int) = R := ⟨_, rfl⟩
      rw [hR] at ho hRl
      have SR := Lib.hid (own_sl intLen ho (by omega))
      obtain ⟨AR, cr, rfl⟩ := own_form ho
      obtain ⟨rl, hrl⟩ : ∃ rl, R.length = rl := ⟨_, rfl⟩
      rw [hrl] at SR hRl ⊢
      have HR := Lib.hid hR
      have HRL := Lib.hid hrl
      have B2 := Lib.hid (hB.out.trans (hb2.mono hB.out.size))
      clear ho hR hrl hb2 c5 hB
      go_wp2
      go_loopw [5, 29] (fun q i wr => ∃ j : Nat, j ≤ rl ∧ i = .int .i64 j ∧ q = .int .i64 (ck + (j : Int)) ∧ Hid (Below w2.heap.size w2 wr)) (fun _ i _ => rl - (intOf i).toNat)
      case atStart => exact ⟨0, Nat.zero_le _, rfl, by simp, Lib.hid (Below.refl _ _)⟩
      case round =>
        obtain ⟨j, hj, rfl, rfl, hI⟩ := hrel
        obtain ⟨wi, rfl⟩ : ∃ X, X = wr := ⟨_, rfl⟩
        have BI := Lib.hid (B2.out.trans (hI.out.mono B2.out.size))
        by_cases hlj : j < rl
        · obtain ⟨r, hr⟩ : ∃ r, R[j]? = some r := ⟨_, List.getElem?_eq_getElem (by rw [HRL.out]; exact hlj)⟩
          obtain ⟨i, x, hi, hx, hxl⟩ := line_mem HFG.out (n := (k : Int)) (i := r) (by rw [HR.out]; exact List.mem_of_getElem? hr)
          subst hi
          have hiL : i < L := by have := (List.getElem?_eq_some_iff.1 hx).1; have := HLN.out; omega
          obtain ⟨gr, og, er, cr0⟩ : ∃ gr og, AR = some ⟨gr, og, none⟩ ∧ wi.cell? ⟨gr, og + j, none⟩ = some (.int .i64 (i : Int)) := by
            rcases SR.out.2 with ⟨he, _⟩ | ⟨g, o, c', e, hp, hcap, hc⟩
            · rw [he] at hr; simp at hr
            · injection e with hA _ _
              exact ⟨g, o, hA, cell_onV (SlInt.cells hc j _ hr) hI.out⟩
          subst er
          obtain ⟨gf, og', ef, cf0⟩ : ∃ gf og', A4 = some ⟨gf, og', none⟩ ∧ wi.cell? ⟨gf, og' + i * 6 + 3, none⟩ = some (.int .i64 (k : Int)) := by
            rcases SF.out.2 with ⟨he, _⟩ | ⟨g, o, c', e, hp, hcap, hc⟩
            · rw [he] at hx; simp at hx
            · injection e with hA _ _
              have hz := (SlShip.cells hc i x hx).2.2.2.1
              rw [hxl] at hz
              exact ⟨g, o, hA, cell_onV hz BI.out⟩
          subst ef
          have c5 : wi.cell? ⟨w1.heap.size, 5, none⟩ = some (.slice (some ⟨gf, og', none⟩) L c4) := (KX.out.below BI.out).cell 5
          have t1 : ¬ (i : Int) < 0 := by omega
          have t2 : ¬ (L : Int) ≤ (i : Int) := by omega
          have hnx : IntKind.i64.wrap ((j : Int) + 1) = ((j + 1 : Nat) : Int) := by rw [IntKind.wrap_i64]; omega
          have hnn : IntKind.i64.wrap (ck + (j : Int) + 1) = ck + ((j + 1 : Nat) : Int) := by rw [IntKind.wrap_i64]; omega
          clear hr hx hxl BI
          go_wp2
          go_roundw
          case rel => exact ⟨j + 1, by omega, rfl, rfl, hI⟩
          case measure => simp [intOf]; omega
        · obtain rfl : j = rl := by omega
          have hnx : IntKind.i64.wrap ((k : Int) + 1) = ((k + 1 : Nat) : Int) := by rw [IntKind.wrap_i64]; omega
          have HS := Lib.hid (show ck + (j : Int) = cntL fl (k + 1) by simp only [cntL]; rw [HCK.out, HR.out, HRL.out])
          go_wp2
          go_roundw
          case rel => exact ⟨k + 1, by omega, rfl, by rw [HS.out], BI⟩
          case measure => simp [intOf]; omega
    · obtain rfl : k = 4 := by omega
      have hc4 := cnt_all HFG.out
      rw [HLN.out] at hc4
      rw [hc4, show ((4 : Nat) : Int) = 4 from rfl]
      have c5 : wo.cell? ⟨w1.heap.size, 5, none⟩ = some (.slice A4 L c4) := (KX.out.below hB.out).cell 5
      clear hc4
      go_wp2
      clear c5
      go_loopw [9, 58] (fun q i wr => ∃ k : Nat, k ≤ L ∧ i = .int .i64 k ∧ q = .int .i64 (lenSum (fl.take k)) ∧ 0 ≤ lenSum (fl.take k) ∧ lenSum (fl.take k) ≤ 400 * k ∧ Hid (Below wo.heap.size wo wr)) (fun _ i _ => L - (intOf i).toNat)
      case atStart => exact ⟨0, Nat.zero_le _, rfl, rfl, by simp [lenSum], by simp [lenSum], Lib.hid (Below.refl _ _)⟩
      case round =>
        obtain ⟨k, hk, rfl, rfl, s0, s1, hI⟩ := hrel
        obtain ⟨wi, rfl⟩ : ∃ X, X = wr := ⟨_, rfl⟩
        have BI := Lib.hid (hB.out.trans (hI.out.mono hB.out.size))
        have c5 : wi.cell? ⟨w1.heap.size, 5, none⟩ = some (.slice A4 L c4) := (KX.out.below BI.out).cell 5
        by_cases hlk : k < L
        · obtain ⟨x, hx⟩ : ∃ x, fl[k]? = some x := ⟨_, List.getElem?_eq_getElem (by rw [HLN.out]; exact hlk)⟩
          obtain ⟨⟨-, x0, x1, -⟩, -⟩ := HFG.out.2.2 k x hx
          have HSH := Lib.hid (fleetB_ship (fleet_ok HFG.out) hx).2
          have E2 := Lib.hid (lenSum_next hx)
          have HXW := Lib.hid (HWF.out x (List.mem_of_getElem? hx)).1
          have hwr : IntKind.i64.wrap (lenSum (fl.take k) + x.length) = lenSum (fl.take k) + x.length := by rw [IntKind.wrap_i64]; omega
          obtain ⟨gf, og', ef, cells⟩ : ∃ gf og', A4 = some ⟨gf, og', none⟩ ∧ (W.cell? ⟨gf, og' + k * 6, none⟩ = some (.string x.name) ∧ W.cell? ⟨gf, og' + k * 6 + 1, none⟩ = some (.int .i64 x.length) ∧ W.cell? ⟨gf, og' + k * 6 + 2, none⟩ = some (.int .i64 x.draught) ∧ W.cell? ⟨gf, og' + k * 6 + 3, none⟩ = some (.int .i64 x.line) ∧ W.cell? ⟨gf, og' + k * 6 + 4, none⟩ = some (.int .i64 x.tugs) ∧ W.cell? ⟨gf, og' + k * 6 + 5, none⟩ = some (.bool x.slow)) := by
            rcases SF.out.2 with ⟨he, _⟩ | ⟨g, o, c', e, hp, hcap, hc⟩
            · rw [he] at hx; simp at hx
            · injection e with hA _ _
              exact ⟨g, o, hA, SlShip.cells hc k x hx⟩
          subst ef
          obtain ⟨q0, q1, q2, q3, q4, q5⟩ := cells
          have y0 := cell_onV q0 BI.out
          have y1 := cell_onV q1 BI.out
          have y2 := cell_onV q2 BI.out
          have y3 := cell_onV q3 BI.out
          have y4 := cell_onV q4 BI.out
          have y5 := cell_onV q5 BI.out
          have hal := Joins.below_alloc1 wi (.cells #[.string x.name, .int .i64 x.length, .int .i64 x.draught, .int .i64 x.line, .int .i64 x.tugs, .bool x.slow] 61)
          have BA := Lib.hid (BI.out.trans (hal.mono BI.out.size))
          have IA := Lib.hid (hI.out.trans (hal.mono hI.out.size))
          have hnx : IntKind.i64.wrap ((k : Int) + 1) = ((k + 1 : Nat) : Int) := by rw [IntKind.wrap_i64]; omega
          have c5' : (wi.alloc (.cells #[.string x.name, .int .i64 x.length, .int .i64 x.draught, .int .i64 x.line, .int .i64 x.tugs, .bool x.slow] 61)).cell? ⟨w1.heap.size, 5, none⟩ = some (.slice (some ⟨gf, og', none⟩) L c4) := cell_onV c5 hal
          clear q0 q1 q2 q3 q4 q5 hx hal
          go_wp2_with fail
          refine (implShipNamed _ fl x.name _ (SF.out.below BA.out) HWF.out HXW.out).mono ?_
          rw [HSH.out]
          rintro e w3 ⟨rfl, hb3⟩
          have I3 := Lib.hid (IA.out.trans (hb3.mono IA.out.size))
          clear hb3 y0 y1 y2 y3 y4 y5 c5 c5' hI BI
          go_wp2
          go_roundw
          case rel => exact ⟨k + 1, by omega, by rfl, by rw [E2.out], by rw [E2.out]; omega, by rw [E2.out]; push_cast; omega, I3⟩
          case measure => simp [intOf]; omega
        · obtain rfl : k = L := by omega
          have htk : fl.take k = fl := by rw [← HLN.out, List.take_length]
          rw [htk] at s0 s1 ⊢
          obtain ⟨sm, hsm⟩ : ∃ sm, lenSum fl = sm := ⟨_, rfl⟩
          have HSM := Lib.hid (show lenI fl = sm by rw [lenI_ok (fleet_ok HFG.out)]; exact hsm)
          rw [hsm] at s0 s1 ⊢
          have HOK := Lib.hid (fleet_ok HFG.out)
          clear htk hsm
          go_wp2_with fail
          refine (implLengthSum _ fl _ (SF.out.below BI.out) HWF.out).mono ?_
          rw [HSM.out]
          rintro e w3 ⟨rfl, hb3⟩
          have B3 := Lib.hid (BI.out.trans (hb3.mono BI.out.size))
          have c6 : w3.cell? ⟨w1.heap.size, 5, none⟩ = some (.slice A4 k c4) := (KX.out.below B3.out).cell 5
          clear hb3 c5
          go_wp2_with fail
          refine (implFleetOk _ fl _ (SF.out.below B3.out) HWF.out).mono ?_
          rw [HOK.out]
          rintro e w4 ⟨rfl, hb4⟩
          have B4 := Lib.hid (B1.out.trans ((B3.out.trans (hb4.mono B3.out.size)).mono B1.out.size))
          clear hb4 c6
          go_wp2
          go_ret
          exact ⟨rfl, B4.out⟩

set_option maxRecDepth 100000 in
theorem lifted (os : Os) (started : os.Started) (H : Type) (enc : TypeId × Value → H) :
    ReturnsInHanded {} Try.checked os 4 .any (Rows.fnFleetsSpec.pre6 enc Try.prog Try.f4 Rows.fnFleetsRow.domain false) (Rows.fnFleetsSpec.post enc Try.prog Try.f4 false true false false) := by
  refine returnsInHanded_of_change (C := Try.checked) own started (by kernel_rfl) Try.func4
    (ChangeSpec.witness6 (enc := enc) (C := Try.checked) false ⟨#[], #[.slice none 0 0], []⟩ 8 (by kernel_rfl) (by kernel_rfl) (by kernel_rfl) (by kernel_rfl)) ?_
  intro W base args ds gs before hval0 hW _ _
  have hval : ∀ (j : Nat) t v, Try.f4.params[j]? = some t → args[j]? = some v → Value.okWide Try.prog W .any base t v := hval0
  have hW' := hW
  obtain ⟨p, q, hA0, hV, rfl, _, _⟩ := hW
  have hA : DataW.TrodAll enc Try.prog W 0 (fun _ => true) true Try.f4.params.toList args.toList ds p := hA0
  rw [Try.params4] at hA hval
  obtain ⟨v0, vs0, d0, ds0, p0, q0, hargs, rfl, rfl, h0, r0⟩ := trodAll_cons hA
  obtain ⟨rfl, rfl, rfl⟩ := trodAll_nil r0
  obtain rfl : args = #[v0] := by cases args; simp_all
  obtain ⟨A0, n0, c0, rfl, g0⟩ := open_code_arg (hval 0 22 v0 rfl rfl) h0
  refine (law A0 n0 c0 W g0).mono fun e W' ⟨he, hb⟩ => ⟨_, he, ?_⟩
  exact law_post laidOut (by kernel_rfl) rfl (by kernel_rfl) Try.underlying4 rfl rfl rfl hW' hb

theorem holds : Rows.FnFleetsSaid :=
  OpenClaim.holds_of_wide 4 Try.f4 rfl rfl rfl rfl rfl rfl rfl ⟨rfl, rfl, rfl, rfl, rfl⟩ rfl rfl rfl rfl rfl (by kernel_rfl) Try.func4 (by kernel_rfl)
    (of_decide_eq_true (by kernel_rfl)) (by unfold Func.isWrapper; first | (rw [if_pos (by decide +kernel)]; kernel_rfl) | (rw [if_neg (by decide +kernel)]; exact ⟨rfl, rfl⟩))
    (fun os started H enc _ => lifted os started H enc)

end Go.Proofs.Ytgjappjlnkdpnaa.lawFleets

