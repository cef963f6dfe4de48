
/- What InOrderLaw rests on, part 25: contracts and mathematics. -/
import Derived.Test.YtooeikimoheecaaIo22
import Derived.Deep.RegionHeld3
import Derived.IntWalk
import Derived.Test.YtooeikimoheecaaIo10
import Derived.Test.YtooeikimoheecaaIo1
import Derived.Test.YtooeikimoheecaaIo21
import Derived.Test.YtooeikimoheecaaIo23
import Derived.Test.YtooeikimoheecaaIo3
import Derived.StillTailTactics
namespace Go.Proofs.Ytooeikimoheecaa
open Go.RowKit
set_option maxRecDepth 100000
theorem headB_le {s : List SurgeD} {t : Int} (h : headB s = true) (ht : 0 ≤ t) : ∀ x, s[0]? = some x → x.fr ≤ t := by
  intro x hx
  rw [headB_of hx] at h
  have := of_decide_eq_true h
  omega
set_option maxHeartbeats 1000000 in
theorem surgeIndex_any (u : Value) (s : List SurgeD) (t : Int) (w : World) (h : SlSurge w u s) (h0 : 0 < s.length) (hx0 : ∀ x, s[0]? = some x → x.fr ≤ t) :
    Calls Try.prog 155 #[u, .int .i64 t] w fun e w' => e = .returned (.int .i64 (lastLe s t s.length : Nat)) ∧ w = w' := by
  obtain ⟨hl, h⟩ := h
  rcases h with ⟨rfl, A, c, rfl⟩ | ⟨g, o, c, rfl, hp, hcap, hc⟩
  · exact absurd h0 (by simp)
  · have HC := Lib.hid hc
    have HX0 := Lib.hid hx0
    clear hc hx0
    go_enter Try.func155, Try.ntmps155
    go_wp2
    go_loop [5] (fun i => ∃ k : Nat, k < s.length ∧ i = .int .i64 k ∧ Hid (lastLe s t s.length = lastLe s t (k + 1))) (fun i => (intOf i).toNat)
    case atStart => exact ⟨s.length - 1, by omega, by go_num, Lib.hid (by rw [show s.length - 1 + 1 = s.length by omega])⟩
    case round =>
      obtain ⟨k, hk, rfl, hF⟩ := hrel
      obtain ⟨x, hx⟩ : ∃ x, s[k]? = some x := ⟨_, List.getElem?_eq_getElem hk⟩
      obtain ⟨p0, _, _⟩ := SlSurge.cells HC.out k x hx
      have HX := Lib.hid hx
      clear hx
      by_cases hle : x.fr ≤ t
      · have E := Lib.hid (hF.out.trans (lastLe_yes HX.out hle))
        have hd : decide (t < x.fr) = false := decide_eq_false (by omega)
        go_wp2
        go_ret
        exact ⟨ret_int (by rw [E.out]), rfl⟩
      · have F := Lib.hid (hF.out.trans (lastLe_no HX.out hle))
        have hk0 : 0 < k := by
          rcases Nat.eq_zero_or_pos k with e | e
          · exact absurd (HX0.out x (e ▸ HX.out)) hle
          · exact e
        have hd : decide (t < x.fr) = true := decide_eq_true (by omega)
        have hgt : t < x.fr := by omega
        go_wp2
        go_round
        case rel => exact ⟨k - 1, by omega, by go_num, Lib.hid (by rw [show k - 1 + 1 = k by omega]; exact F.out)⟩
        case measure => simp [intOf]; omega
/-- The results of SurgeAt: zero values outside. -/
def sAt (m : Int) (l : List PartD) (s : List SurgeD) (t : Int) : Bool := fcB m l s && inB t 0 2880
def sRes (m : Int) (l : List PartD) (s : List SurgeD) (t : Int) : Value :=
  if sAt m l s t = true then .tuple #[.int .i64 (atS s t).lo, .int .i64 (atS s t).hi, .bool true] else .tuple #[.int .i64 0, .int .i64 0, .bool false]
theorem sRes_yes {m : Int} {l : List PartD} {s : List SurgeD} {t : Int} (h : sAt m l s t = true) : sRes m l s t = .tuple #[.int .i64 (atS s t).lo, .int .i64 (atS s t).hi, .bool true] := if_pos h
theorem sRes_no {m : Int} {l : List PartD} {s : List SurgeD} {t : Int} (h : sAt m l s t = false) : sRes m l s t = .tuple #[.int .i64 0, .int .i64 0, .bool false] := if_neg (by rw [h]; simp)
theorem sAt_true {m : Int} {l : List PartD} {s : List SurgeD} {t : Int} (h : sAt m l s t = true) : fcB m l s = true ∧ 0 ≤ t ∧ t ≤ 2880 := by
  unfold sAt at h
  rw [Bool.and_eq_true] at h
  have := of_decide_eq_true (show decide (0 ≤ t ∧ t ≤ 2880) = true from h.2)
  exact ⟨h.1, this⟩
theorem sAt_mk {m : Int} {l : List PartD} {s : List SurgeD} {t : Int} (h : fcB m l s = true) (h' : inB t 0 2880 = true) : sAt m l s t = true := by unfold sAt; rw [h, h']; rfl
theorem sAt_no1 {m : Int} {l : List PartD} {s : List SurgeD} {t : Int} (h : fcB m l s = false) : sAt m l s t = false := by unfold sAt; rw [h]; rfl
theorem sAt_no2 {m : Int} {l : List PartD} {s : List SurgeD} {t : Int} (h : inB t 0 2880 = false) : sAt m l s t = false := by unfold sAt; rw [h]; simp
theorem ret_val {a b : Value} (h : a = b) : Ending.returned a = .returned b := by rw [h]
set_option maxHeartbeats 2000000 in
theorem implSurgeAt (m : Int) (v u : Value) (l : List PartD) (s : List SurgeD) (t : Int) (w : World) (h : SlP w v l) (h' : SlSurge w u s) :
    Calls Try.prog 152 #[.agg #[.int .i64 m, v, u], .int .i64 t] w fun e w' => e = .returned (sRes m l s t) ∧ Below w.heap.size w w' := by
  have H := Lib.hid h
  have H' := Lib.hid h'
  obtain ⟨A, c, rfl⟩ := h.at
  cases hf : fcB m l s with
  | false =>
    obtain ⟨A', c', rfl⟩ := h'.at
    have HF := Lib.hid hf
    have E := Lib.hid (sRes_no (sAt_no1 (t := t) hf))
    clear h h' hf
    go_enter Try.func152, Try.ntmps152
    go_wp2_with fail
    refine (implForecastOk m _ _ l s _ (H.out.below (Joins.below_alloc1 _ _)) (H'.out.below (Joins.below_alloc1 _ _))).mono ?_
    rw [HF.out]
    rintro e w1 ⟨rfl, hb1⟩
    go_wp2
    refine bodyPost_ret (v := .tuple #[.int .i64 0, .int .i64 0, .bool false]) (by simp [results, Try.results152, go_sem]) rfl ?_
    exact ⟨ret_val E.out.symm, (Joins.below_alloc1 _ _).trans (hb1.mono (by simp))⟩
  | true =>
    cases hm : inB t 0 2880 with
    | false =>
      obtain ⟨A', c', rfl⟩ := h'.at
      have HF := Lib.hid hf
      have HM := Lib.hid hm
      have E := Lib.hid (sRes_no (m := m) (l := l) (s := s) (sAt_no2 hm))
      clear h h' hf hm
      go_enter Try.func152, Try.ntmps152
      go_wp2_with fail
      refine (implForecastOk m _ _ l s _ (H.out.below (Joins.below_alloc1 _ _)) (H'.out.below (Joins.below_alloc1 _ _))).mono ?_
      rw [HF.out]
      rintro e w1 ⟨rfl, hb1⟩
      go_wp2_with fail
      refine (isMinute_any _ _).mono ?_
      rw [HM.out]
      rintro e w2 ⟨rfl, rfl⟩
      go_wp2
      refine bodyPost_ret (v := .tuple #[.int .i64 0, .int .i64 0, .bool false]) (by simp [results, Try.results152, go_sem]) rfl ?_
      exact ⟨ret_val E.out.symm, (Joins.below_alloc1 _ _).trans (hb1.mono (by simp))⟩
    | true =>
      obtain ⟨_, s0, s6, hh, hall⟩ := fcB_true hf
      have hat := sAt_mk hf hm
      obtain ⟨_, t0, t1⟩ := sAt_true hat
      have E := Lib.hid (sRes_yes hat)
      have HH := Lib.hid (headB_le hh t0)
      have HF := Lib.hid hf
      have HM := Lib.hid hm
      have hK := lastLe_lt (s := s) (t := t) s0 _ (Nat.le_refl _)
      have hx := atS_of (s := s) (t := t) s0
      obtain ⟨K, eK⟩ : ∃ K, lastLe s t s.length = K := ⟨_, rfl⟩
      rw [eK] at hx hK
      have EK := Lib.hid eK
      obtain ⟨_, h'⟩ := h'
      rcases h' with ⟨rfl, A', c', rfl⟩ | ⟨g, o, c', rfl, hp, hcap, hc⟩
      · exact absurd s0 (by simp)
      · obtain ⟨p0, p1, p2⟩ := SlSurge.cells hc K _ hx
        have hg : g < w.heap.size := World.block_lt_of_cell? w ⟨g, o + K * 3, none⟩ p0
        clear hc h hf hm hh hall hat hx eK
        obtain ⟨xa, xl, xh, hxx⟩ : ∃ a b d, atS s t = ⟨a, b, d⟩ := ⟨_, _, _, rfl⟩
        rw [hxx] at p0 p1 p2
        have HXX := Lib.hid hxx
        clear hxx
        simp only at p0 p1 p2
        go_enter Try.func152, Try.ntmps152
        go_wp2_with fail
        refine (implForecastOk m _ _ l s _ (H.out.below (Joins.below_alloc1 _ _)) (H'.out.below (Joins.below_alloc1 _ _))).mono ?_
        rw [HF.out]
        rintro e w1 ⟨rfl, hb1⟩
        have B1 := Lib.hid ((Joins.below_alloc1 w (.cells #[.int .i64 m, .slice A l.length c, .slice (some ⟨g, o, none⟩) s.length c'] 28)).trans (hb1.mono (by simp)))
        have X1 : w1.cell? ⟨w.heap.size, 2, none⟩ = some (.slice (some ⟨g, o, none⟩) s.length c') := (hb1.cell (p := ⟨w.heap.size, 2, none⟩) (by simp)).trans (by rw [World.cell?_alloc_at _ _ _ _ rfl]; rfl)
        have a0 := (B1.out.cell (p := ⟨g, o + K * 3, none⟩) hg).trans p0
        have a1 := (B1.out.cell (p := ⟨g, o + K * 3 + 1, none⟩) hg).trans p1
        have a2 := (B1.out.cell (p := ⟨g, o + K * 3 + 2, none⟩) hg).trans p2
        have hgs : g < w1.heap.size := by have := B1.out.size; omega
        have hbs : w.heap.size < w1.heap.size := by have := hb1.size; simp at this; omega
        clear hb1 p0 p1 p2
        go_wp2_with fail
        refine (isMinute_any _ _).mono ?_
        rw [HM.out]
        rintro e w2 ⟨rfl, rfl⟩
        go_wp2
        have D1 := Lib.hid ((Below.refl w1.heap.size w1).drew)
        have D2 := Lib.hid (((Below.refl w1.heap.size w1).alloc (Nat.le_refl _) (.cells #[.int .i64 0, .int .i64 0, .int .i64 0] 169)).drew)
        have D3 := Lib.hid (((Below.refl w1.heap.size w1).alloc (Nat.le_refl _) (.cells #[.int .i64 xa, .int .i64 xl, .int .i64 xh] 169)).drew)
        go_region_held3 (fun w' => w'.cell? ⟨w.heap.size, 2, none⟩ = some (.slice (some ⟨g, o, none⟩) s.length c') ∧ w'.cell? ⟨g, o + K * 3, none⟩ = some (.int .i64 xa) ∧ w'.cell? ⟨g, o + K * 3 + 1, none⟩ = some (.int .i64 xl) ∧ w'.cell? ⟨g, o + K * 3 + 2, none⟩ = some (.int .i64 xh) ∧ Hid (Below w1.heap.size w1 w')) (go_keep)
          (first
            | (go_at_call 155; refine (surgeIndex_any _ s t _ (H'.out.below (B1.out.trans (Below.mono (Hid.out (by assumption)) B1.out.size))) s0 HH.out).mono ?_; rw [EK.out]; rintro e w7 ⟨rfl, rfl⟩))
        all_goals
          go_wp2
          go_quiet (fail)
          go_wp2
          go_ret3
          refine ⟨ret_val (by rw [E.out, HXX.out]; rfl), ?_⟩
          repeat (first | exact B1.out | refine below_drewN ?_ _ | refine Below.drew ?_ | refine Below.setCell ?_ (by first | omega | (simp <;> omega)) _ | refine Below.alloc ?_ (by first | omega | (simp <;> omega)) _)
end Go.Proofs.Ytooeikimoheecaa
namespace Go.Proofs.Ytooeikimoheecaa
open Go.RowKit
set_option maxRecDepth 100000
theorem GathW.set {w wr : World} {acc : List WindowD} {y : WindowD} {g cap : Nat} (t : Int) (h : GathW w (.slice (some ⟨g, 0, none⟩) (acc.length + 1) cap) (acc ++ [y]) wr) :
    GathW w (.slice (some ⟨g, 0, none⟩) (acc.length + 1) cap) (acc ++ [⟨y.fr, t⟩]) (wr.setCell ⟨g, acc.length * 2 + 1, none⟩ (.int .i64 t)) := by
  have hrow : wr.ownsRow w.heap.size 174 2 (.slice (some ⟨g, 0, none⟩) (acc.length + 1) cap) (acc.length + 1) ((acc ++ [y]).flatMap WindowD.cells) := by
    have := h.1
    unfold OwnWindow OwnOf at this
    rw [show (acc ++ [y]).length = acc.length + 1 by simp] at this
    exact this
  have hst := (World.ownsRow.stored hrow (acc.length * 2 + 1) (.int .i64 t)).1
  rw [flat_set] at hst
  refine ⟨?_, h.2.setCell (p := ⟨g, acc.length * 2 + 1, none⟩) (World.ownsRow.lt hrow g rfl).1 _⟩
  show World.ownsRow _ _ _ _ _ _ _
  rw [show (acc ++ [(⟨y.fr, t⟩ : WindowD)]).length = acc.length + 1 by simp]
  exact hst
theorem GathW.last {w wr : World} {acc : List WindowD} {y : WindowD} {v : Value} (h : GathW w v (acc ++ [y]) wr) :
    ∃ g cap, v = .slice (some ⟨g, 0, none⟩) (acc.length + 1) cap ∧ wr.cell? ⟨g, acc.length * 2 + 1, none⟩ = some (.int .i64 y.tt) ∧ wr.frozen? ⟨g, acc.length * 2 + 1, none⟩ = false := by
  have hrow : wr.ownsRow w.heap.size 174 2 v (acc.length + 1) ((acc ++ [y]).flatMap WindowD.cells) := by
    have := h.1
    unfold OwnWindow OwnOf at this
    rw [show (acc ++ [y]).length = acc.length + 1 by simp] at this
    exact this
  obtain ⟨g, cap, rfl⟩ := ownsRow_succ hrow
  exact ⟨g, cap, rfl, (World.ownsRow.cellAt hrow (acc.length * 2 + 1) (by omega)).trans (flat_last acc y).2, World.ownsRow.frozenAt hrow _⟩
theorem GathW.row {w W : World} {v : Value} {acc : List WindowD} {n : Nat} (e : n = acc.length) (h : GathW w v acc W) : W.ownsRow w.heap.size 174 2 v n (acc.flatMap WindowD.cells) := by subst e; exact h.1
end Go.Proofs.Ytooeikimoheecaa
namespace Go.Proofs.Ytooeikimoheecaa
open Go.RowKit
set_option maxRecDepth 100000
set_option maxHeartbeats 2000000 in
theorem implSquatOf (s : ShipD) (w : World) (hw : s.wf) :
    Calls Try.prog 143 #[s.val] w fun e w' => e = .returned (.int .i64 (squatI s)) ∧ Below w.heap.size w w' := by
  have B := Lib.hid (Joins.below_alloc1 w (.cells #[.string s.name, .int .i64 s.length, .int .i64 s.draught, .int .i64 s.line, .int .i64 s.tugs, .bool s.slow] 46))
  have K := Lib.hid (Blk.new w #[.string s.name, .int .i64 s.length, .int .i64 s.draught, .int .i64 s.line, .int .i64 s.tugs, .bool s.slow] 46)
  obtain ⟨t, ht⟩ : ∃ t, shipB s = t := ⟨_, rfl⟩
  have HT := Lib.hid ht
  cases t with
  | false =>
    have E := Lib.hid (show squatI s = 0 from if_neg (by rw [ht]; simp))
    clear ht
    go_enter Try.func143, Try.ntmps143
    go_wp2_with fail
    refine (implShipOk s _ hw).mono ?_
    rw [HT.out]
    rintro e w1 ⟨rfl, hb1⟩
    have B1 := Lib.hid (B.out.trans (hb1.mono B.out.size))
    clear hb1
    go_wp2
    go_ret
    exact ⟨ret_int E.out.symm, B1.out⟩
  | true =>
    obtain ⟨-, -, -, d0, d1, -⟩ := shipB_true ht
    have v1 : IntKind.i64.wrap (s.draught.tdiv 50) = s.draught.tdiv 50 := by rw [IntKind.wrap_i64, Int.tdiv_eq_ediv_of_nonneg (by omega)]; omega
    have v2 : IntKind.i64.wrap (s.draught.tdiv 20) = s.draught.tdiv 20 := by rw [IntKind.wrap_i64, Int.tdiv_eq_ediv_of_nonneg (by omega)]; omega
    have E0 : squatI s = (if s.slow = true then s.draught.tdiv 50 else s.draught.tdiv 20) := if_pos ht
    clear ht
    cases hs : s.slow with
    | true =>
      have E := Lib.hid (E0.trans (if_pos hs))
      have HSL := Lib.hid hs
      clear E0 hs
      go_enter Try.func143, Try.ntmps143
      go_wp2_with fail
      refine (implShipOk s _ hw).mono ?_
      rw [HT.out]
      rintro e w1 ⟨rfl, hb1⟩
      have K1 := K.out.below hb1
      have z2 := K1.cell 2
      have z5 := K1.cell 5
      simp at z2 z5
      rw [HSL.out] at z5
      have B1 := Lib.hid (B.out.trans (hb1.mono B.out.size))
      clear hb1 K1
      go_wp2
      go_ret
      exact ⟨ret_int E.out.symm, B1.out⟩
    | false =>
      have E := Lib.hid (E0.trans (if_neg (by rw [hs]; simp)))
      have HSL := Lib.hid hs
      clear E0 hs
      go_enter Try.func143, Try.ntmps143
      go_wp2_with fail
      refine (implShipOk s _ hw).mono ?_
      rw [HT.out]
      rintro e w1 ⟨rfl, hb1⟩
      have K1 := K.out.below hb1
      have z2 := K1.cell 2
      have z5 := K1.cell 5
      simp at z2 z5
      rw [HSL.out] at z5
      have B1 := Lib.hid (B.out.trans (hb1.mono B.out.size))
      clear hb1 K1
      go_wp2
      go_ret
      exact ⟨ret_int E.out.symm, B1.out⟩
end Go.Proofs.Ytooeikimoheecaa
