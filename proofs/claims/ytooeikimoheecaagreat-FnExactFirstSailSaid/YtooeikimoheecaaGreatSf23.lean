
/- What ExactSailRoute and ExactFirstSail rests on, part 23: contracts and mathematics. -/
import Derived.Test.YtooeikimoheecaaGreatSf16
import Derived.Test.YtooeikimoheecaaGreatSf20
import Derived.Test.YtooeikimoheecaaGreatSf8
import Derived.Test.YtooeikimoheecaaGreatSf1
import Derived.Test.YtooeikimoheecaaGreatSf19
import Derived.Test.YtooeikimoheecaaGreatSf18
import Derived.Test.YtooeikimoheecaaGreatSf13
import Derived.StillTailTactics
namespace Go.Proofs.YtooeikimoheecaaGreat
open Go.RowKit
set_option maxRecDepth 100000
theorem headB_le {s : List SurgeD} {t : Int} (h : headB s = true) (ht : 0 ≤ t) : ∀ x, s[0]? = some x → x.fr ≤ t := by
  intro x hx
  rw [headB_of hx] at h
  have := of_decide_eq_true h
  omega
set_option maxHeartbeats 1000000 in
theorem surgeIndex_any (u : Value) (s : List SurgeD) (t : Int) (w : World) (h : SlSurge w u s) (h0 : 0 < s.length) (hx0 : ∀ x, s[0]? = some x → x.fr ≤ t) :
    Calls Tryz.prog 156 #[u, .int .i64 t] w fun e w' => e = .returned (.int .i64 (lastLe s t s.length : Nat)) ∧ w = w' := by
  obtain ⟨hl, h⟩ := h
  rcases h with ⟨rfl, A, c, rfl⟩ | ⟨g, o, c, rfl, hp, hcap, hc⟩
  · exact absurd h0 (by simp)
  · have HC := Lib.hid hc
    have HX0 := Lib.hid hx0
    clear hc hx0
    go_enter Tryz.func156, Tryz.ntmps156
    go_wp2
    go_loop [5] (fun i => ∃ k : Nat, k < s.length ∧ i = .int .i64 k ∧ Hid (lastLe s t s.length = lastLe s t (k + 1))) (fun i => (intOf i).toNat)
    case atStart => exact ⟨s.length - 1, by omega, by go_num, Lib.hid (by rw [show s.length - 1 + 1 = s.length by omega])⟩
    case round =>
      obtain ⟨k, hk, rfl, hF⟩ := hrel
      obtain ⟨x, hx⟩ : ∃ x, s[k]? = some x := ⟨_, List.getElem?_eq_getElem hk⟩
      obtain ⟨p0, _, _⟩ := SlSurge.cells HC.out k x hx
      have HX := Lib.hid hx
      clear hx
      by_cases hle : x.fr ≤ t
      · have E := Lib.hid (hF.out.trans (lastLe_yes HX.out hle))
        have hd : decide (t < x.fr) = false := decide_eq_false (by omega)
        go_wp2
        go_ret
        exact ⟨ret_int (by rw [E.out]), rfl⟩
      · have F := Lib.hid (hF.out.trans (lastLe_no HX.out hle))
        have hk0 : 0 < k := by
          rcases Nat.eq_zero_or_pos k with e | e
          · exact absurd (HX0.out x (e ▸ HX.out)) hle
          · exact e
        have hd : decide (t < x.fr) = true := decide_eq_true (by omega)
        have hgt : t < x.fr := by omega
        go_wp2
        go_round
        case rel => exact ⟨k - 1, by omega, by go_num, Lib.hid (by rw [show k - 1 + 1 = k by omega]; exact F.out)⟩
        case measure => simp [intOf]; omega
/-- The results of SurgeAt: zero values outside. -/
def sAt (m : Int) (l : List PartD) (s : List SurgeD) (t : Int) : Bool := fcB m l s && inB t 0 2880
def sRes (m : Int) (l : List PartD) (s : List SurgeD) (t : Int) : Value :=
  if sAt m l s t = true then .tuple #[.int .i64 (atS s t).lo, .int .i64 (atS s t).hi, .bool true] else .tuple #[.int .i64 0, .int .i64 0, .bool false]
theorem sRes_yes {m : Int} {l : List PartD} {s : List SurgeD} {t : Int} (h : sAt m l s t = true) : sRes m l s t = .tuple #[.int .i64 (atS s t).lo, .int .i64 (atS s t).hi, .bool true] := if_pos h
theorem sRes_no {m : Int} {l : List PartD} {s : List SurgeD} {t : Int} (h : sAt m l s t = false) : sRes m l s t = .tuple #[.int .i64 0, .int .i64 0, .bool false] := if_neg (by rw [h]; simp)
theorem sAt_true {m : Int} {l : List PartD} {s : List SurgeD} {t : Int} (h : sAt m l s t = true) : fcB m l s = true ∧ 0 ≤ t ∧ t ≤ 2880 := by
  unfold sAt at h
  rw [Bool.and_eq_true] at h
  have := of_decide_eq_true (show decide (0 ≤ t ∧ t ≤ 2880) = true from h.2)
  exact ⟨h.1, this⟩
theorem sAt_mk {m : Int} {l : List PartD} {s : List SurgeD} {t : Int} (h : fcB m l s = true) (h' : inB t 0 2880 = true) : sAt m l s t = true := by unfold sAt; rw [h, h']; rfl
theorem sAt_no1 {m : Int} {l : List PartD} {s : List SurgeD} {t : Int} (h : fcB m l s = false) : sAt m l s t = false := by unfold sAt; rw [h]; rfl
theorem sAt_no2 {m : Int} {l : List PartD} {s : List SurgeD} {t : Int} (h : inB t 0 2880 = false) : sAt m l s t = false := by unfold sAt; rw [h]; simp
theorem ret_val {a b : Value} (h : a = b) : Ending.returned a = .returned b := by rw [h]
set_option maxHeartbeats 2000000 in
theorem implSurgeAt (m : Int) (v u : Value) (l : List PartD) (s : List SurgeD) (t : Int) (w : World) (h : SlP w v l) (h' : SlSurge w u s) :
    Calls Tryz.prog 153 #[.agg #[.int .i64 m, v, u], .int .i64 t] w fun e w' => e = .returned (sRes m l s t) ∧ Below w.heap.size w w' := by
  have H := Lib.hid h
  have H' := Lib.hid h'
  obtain ⟨A, c, rfl⟩ := h.at
  cases hf : fcB m l s with
  | false =>
    obtain ⟨A', c', rfl⟩ := h'.at
    have HF := Lib.hid hf
    have E := Lib.hid (sRes_no (sAt_no1 (t := t) hf))
    clear h h' hf
    go_enter Tryz.func153, Tryz.ntmps153
    go_wp2_with fail
    refine (implForecastOk m _ _ l s _ (H.out.below (Joins.below_alloc1 _ _)) (H'.out.below (Joins.below_alloc1 _ _))).mono ?_
    rw [HF.out]
    rintro e w1 ⟨rfl, hb1⟩
    go_wp2
    refine bodyPost_ret (v := .tuple #[.int .i64 0, .int .i64 0, .bool false]) (by simp [results, Tryz.results153, go_sem]) rfl ?_
    exact ⟨ret_val E.out.symm, (Joins.below_alloc1 _ _).trans (hb1.mono (by simp))⟩
  | true =>
    cases hm : inB t 0 2880 with
    | false =>
      obtain ⟨A', c', rfl⟩ := h'.at
      have HF := Lib.hid hf
      have HM := Lib.hid hm
      have E := Lib.hid (sRes_no (m := m) (l := l) (s := s) (sAt_no2 hm))
      clear h h' hf hm
      go_enter Tryz.func153, Tryz.ntmps153
      go_wp2_with fail
      refine (implForecastOk m _ _ l s _ (H.out.below (Joins.below_alloc1 _ _)) (H'.out.below (Joins.below_alloc1 _ _))).mono ?_
      rw [HF.out]
      rintro e w1 ⟨rfl, hb1⟩
      go_wp2_with fail
      refine (isMinute_any _ _).mono ?_
      rw [HM.out]
      rintro e w2 ⟨rfl, rfl⟩
      go_wp2
      refine bodyPost_ret (v := .tuple #[.int .i64 0, .int .i64 0, .bool false]) (by simp [results, Tryz.results153, go_sem]) rfl ?_
      exact ⟨ret_val E.out.symm, (Joins.below_alloc1 _ _).trans (hb1.mono (by simp))⟩
    | true =>
      obtain ⟨_, s0, s6, hh, hall⟩ := fcB_true hf
      have hat := sAt_mk hf hm
      obtain ⟨_, t0, t1⟩ := sAt_true hat
      have E := Lib.hid (sRes_yes hat)
      have HH := Lib.hid (headB_le hh t0)
      have HF := Lib.hid hf
      have HM := Lib.hid hm
      have hK := lastLe_lt (s := s) (t := t) s0 _ (Nat.le_refl _)
      have hx := atS_of (s := s) (t := t) s0
      obtain ⟨K, eK⟩ : ∃ K, lastLe s t s.length = K := ⟨_, rfl⟩
      rw [eK] at hx hK
      have EK := Lib.hid eK
      obtain ⟨_, h'⟩ := h'
      rcases h' with ⟨rfl, A', c', rfl⟩ | ⟨g, o, c', rfl, hp, hcap, hc⟩
      · exact absurd s0 (by simp)
      · obtain ⟨p0, p1, p2⟩ := SlSurge.cells hc K _ hx
        have hg : g < w.heap.size := World.block_lt_of_cell? w ⟨g, o + K * 3, none⟩ p0
        clear hc h hf hm hh hall hat hx eK
        obtain ⟨xa, xl, xh, hxx⟩ : ∃ a b d, atS s t = ⟨a, b, d⟩ := ⟨_, _, _, rfl⟩
        rw [hxx] at p0 p1 p2
        have HXX := Lib.hid hxx
        clear hxx
        simp only at p0 p1 p2
        go_enter Tryz.func153, Tryz.ntmps153
        go_wp2_with fail
        refine (implForecastOk m _ _ l s _ (H.out.below (Joins.below_alloc1 _ _)) (H'.out.below (Joins.below_alloc1 _ _))).mono ?_
        rw [HF.out]
        rintro e w1 ⟨rfl, hb1⟩
        have B1 := Lib.hid ((Joins.below_alloc1 w (.cells #[.int .i64 m, .slice A l.length c, .slice (some ⟨g, o, none⟩) s.length c'] 44)).trans (hb1.mono (by simp)))
        have X1 : w1.cell? ⟨w.heap.size, 2, none⟩ = some (.slice (some ⟨g, o, none⟩) s.length c') := (hb1.cell (p := ⟨w.heap.size, 2, none⟩) (by simp)).trans (by rw [World.cell?_alloc_at _ _ _ _ rfl]; rfl)
        have a0 := (B1.out.cell (p := ⟨g, o + K * 3, none⟩) hg).trans p0
        have a1 := (B1.out.cell (p := ⟨g, o + K * 3 + 1, none⟩) hg).trans p1
        have a2 := (B1.out.cell (p := ⟨g, o + K * 3 + 2, none⟩) hg).trans p2
        have hgs : g < w1.heap.size := by have := B1.out.size; omega
        have hbs : w.heap.size < w1.heap.size := by have := hb1.size; simp at this; omega
        clear hb1 p0 p1 p2
        go_wp2_with fail
        refine (isMinute_any _ _).mono ?_
        rw [HM.out]
        rintro e w2 ⟨rfl, rfl⟩
        go_wp2
        have D1 := Lib.hid ((Below.refl w1.heap.size w1).drew)
        have D2 := Lib.hid (((Below.refl w1.heap.size w1).alloc (Nat.le_refl _) (.cells #[.int .i64 0, .int .i64 0, .int .i64 0] 115)).drew)
        have D3 := Lib.hid (((Below.refl w1.heap.size w1).alloc (Nat.le_refl _) (.cells #[.int .i64 xa, .int .i64 xl, .int .i64 xh] 115)).drew)
        go_region_held3 (fun w' => w'.cell? ⟨w.heap.size, 2, none⟩ = some (.slice (some ⟨g, o, none⟩) s.length c') ∧ w'.cell? ⟨g, o + K * 3, none⟩ = some (.int .i64 xa) ∧ w'.cell? ⟨g, o + K * 3 + 1, none⟩ = some (.int .i64 xl) ∧ w'.cell? ⟨g, o + K * 3 + 2, none⟩ = some (.int .i64 xh) ∧ Hid (Below w1.heap.size w1 w')) (go_keep)
          (first
            | (go_at_call 156; refine (surgeIndex_any _ s t _ (H'.out.below (B1.out.trans (Below.mono (Hid.out (by assumption)) B1.out.size))) s0 HH.out).mono ?_; rw [EK.out]; rintro e w7 ⟨rfl, rfl⟩))
        all_goals
          go_wp2
          go_quiet (fail)
          go_wp2
          go_ret3
          refine ⟨ret_val (by rw [E.out, HXX.out]; rfl), ?_⟩
          repeat (first | exact B1.out | refine below_drewN ?_ _ | refine Below.drew ?_ | refine Below.setCell ?_ (by first | omega | (simp <;> omega)) _ | refine Below.alloc ?_ (by first | omega | (simp <;> omega)) _)
set_option maxHeartbeats 2000000 in
theorem l03Surge_any (m : Int) (v u : Value) (l : List PartD) (s : List SurgeD) (t : Int) (w : World) (h : SlP w v l) (h' : SlSurge w u s) (h0 : 0 < s.length) :
    Calls Tryz.prog 126 #[.agg #[.int .i64 m, v, u], .int .i64 t] w fun e w' => e = .returned (.agg #[.int .i64 (atS s t).fr, .int .i64 (atS s t).lo, .int .i64 (atS s t).hi]) ∧ Below w.heap.size w w' := by
  obtain ⟨A, c, rfl⟩ := h.at
  clear h
  obtain ⟨hl, h'⟩ := h'
  rcases h' with ⟨rfl, A', c', rfl⟩ | ⟨g, o, c', rfl, hp, hcap, hc⟩
  · exact absurd h0 (by simp)
  · have HC := Lib.hid hc
    obtain ⟨x0, hx0⟩ : ∃ x, s[0]? = some x := ⟨_, List.getElem?_eq_getElem hp⟩
    obtain ⟨q0, q1, q2⟩ := SlSurge.cells hc 0 x0 hx0
    simp only [Nat.zero_mul, Nat.add_zero] at q0 q1 q2
    have hg : g < w.heap.size := World.block_lt_of_cell? w ⟨g, o, none⟩ q0
    have Z := Lib.hid (atK_zero (t := t) hx0)
    clear hc hx0
    go_enter Tryz.func126, Tryz.ntmps126
    go_wp2
    go_loopw [15] (fun i wr => ∃ k : Nat, k ≤ s.length ∧ i = .int .i64 k ∧ Hid (Blk wr (w.heap.size + 1) #[.int .i64 0, .int .i64 0, .int .i64 0] 115) ∧ Hid (Blk wr (w.heap.size + 1 + 1) #[.int .i64 (atK s t k).fr, .int .i64 (atK s t k).lo, .int .i64 (atK s t k).hi] 115) ∧ Hid (Below w.heap.size w wr)) (fun i _ => s.length - (intOf i).toNat)
    case atStart =>
      refine ⟨0, Nat.zero_le _, rfl, Lib.hid ?_, Lib.hid ?_, Lib.hid ?_⟩
      · exact (Blk.newAt (by simp) _ _).below (Joins.below_alloc1 _ _)
      · rw [Z.out]; exact Blk.newAt (by simp) _ _
      · repeat (first | exact Below.refl _ _ | refine Below.setCell ?_ (by first | omega | (simp <;> omega)) _ | refine Below.alloc ?_ (by first | omega | (simp <;> omega)) _)
    case round =>
      obtain ⟨k, hk, rfl, hR, hO, hb⟩ := hrel
      have hlt2 := hO.out.lt
      have o0 := hO.out.cell 0
      have o1 := hO.out.cell 1
      have o2 := hO.out.cell 2
      have r0 := hR.out.cell 0
      have r1 := hR.out.cell 1
      have r2 := hR.out.cell 2
      simp at o0 o1 o2 r0 r1 r2
      have of0 := hO.out.free 0
      have of1 := hO.out.free 1
      have of2 := hO.out.free 2
      have rf0 := hR.out.free 0
      have rf1 := hR.out.free 1
      have rf2 := hR.out.free 2
      by_cases hlt : k < s.length
      · obtain ⟨x, hx⟩ : ∃ x, s[k]? = some x := ⟨_, List.getElem?_eq_getElem hlt⟩
        obtain ⟨p0, p1, p2⟩ := SlSurge.cells HC.out k x hx
        have a0 := (hb.out.cell (p := ⟨g, o + k * 3, none⟩) hg).trans p0
        have a1 := (hb.out.cell (p := ⟨g, o + k * 3 + 1, none⟩) hg).trans p1
        have a2 := (hb.out.cell (p := ⟨g, o + k * 3 + 2, none⟩) hg).trans p2
        have HX := Lib.hid hx
        clear p0 p1 p2 hx
        by_cases hle : x.fr ≤ t
        · have F := Lib.hid (atK_yes HX.out hle)
          have hd : decide (x.fr ≤ t) = true := decide_eq_true hle
          go_wp2
          go_roundw
          case rel =>
            refine ⟨k + 1, by omega, by go_num, Lib.hid ?_, Lib.hid ?_, Lib.hid ?_⟩
            · exact (((hR.out.other (by omega) _ _).other (by omega) _ _).other (by omega) _ _).below (Joins.below_alloc1 _ _)
            · rw [F.out]; exact (((hO.out.set 0 _).set 1 _).set 2 _).below (Joins.below_alloc1 _ _)
            · have hs := hb.out.size
              repeat (first | exact hb.out | refine Below.setCell ?_ (by first | omega | (simp <;> omega)) _ | refine Below.alloc ?_ (by first | omega | (simp <;> omega)) _)
          case measure => simp [intOf]; omega
        · have F := Lib.hid (atK_no HX.out hle)
          have hd : decide (x.fr ≤ t) = false := decide_eq_false hle
          go_wp2
          go_roundw
          case rel =>
            refine ⟨k + 1, by omega, by go_num, Lib.hid ?_, Lib.hid ?_, Lib.hid ?_⟩
            · exact hR.out.below (Joins.below_alloc1 _ _)
            · rw [F.out]; exact hO.out.below (Joins.below_alloc1 _ _)
            · have hs := hb.out.size
              repeat (first | exact hb.out | refine Below.setCell ?_ (by first | omega | (simp <;> omega)) _ | refine Below.alloc ?_ (by first | omega | (simp <;> omega)) _)
          case measure => simp [intOf]; omega
      · obtain rfl : k = s.length := by omega
        have eA := atK_all s t
        rw [eA] at o0 o1 o2
        clear eA hO hR
        go_wp2
        refine bodyPost_ret (v := .agg #[.int .i64 (atS s t).fr, .int .i64 (atS s t).lo, .int .i64 (atS s t).hi]) (by simp [results, Tryz.results126, go_sem, *]) rfl ⟨rfl, ?_⟩
        have hs := hb.out.size
        repeat (first | exact hb.out | refine Below.setCell ?_ (by first | omega | (simp <;> omega)) _ | refine Below.alloc ?_ (by first | omega | (simp <;> omega)) _)
end Go.Proofs.YtooeikimoheecaaGreat
namespace Go.Proofs.YtooeikimoheecaaGreat
open Go.RowKit
set_option maxRecDepth 100000
@[reducible] def boolCells (b : Bool) : List Value := [.bool b]
theorem boolLen (b : Bool) : (boolCells b).length = 1 := rfl
def SlBool : World → Value → List Bool → Prop := SlOf 1 boolCells
def markF (l : List Bool) (j : Nat) : Bool := l[j]?.getD false
theorem markF_at {l : List Bool} {k : Nat} {b : Bool} (h : l[k]? = some b) : markF l k = b := by unfold markF; rw [h]; rfl
theorem GathW.set {w wr : World} {acc : List WindowD} {y : WindowD} {g cap : Nat} (t : Int) (h : GathW w (.slice (some ⟨g, 0, none⟩) (acc.length + 1) cap) (acc ++ [y]) wr) :
    GathW w (.slice (some ⟨g, 0, none⟩) (acc.length + 1) cap) (acc ++ [⟨y.fr, t⟩]) (wr.setCell ⟨g, acc.length * 2 + 1, none⟩ (.int .i64 t)) := by
  have hrow : wr.ownsRow w.heap.size 145 2 (.slice (some ⟨g, 0, none⟩) (acc.length + 1) cap) (acc.length + 1) ((acc ++ [y]).flatMap WindowD.cells) := by
    have := h.1
    unfold OwnWindow OwnOf at this
    rw [show (acc ++ [y]).length = acc.length + 1 by simp] at this
    exact this
  have hst := (World.ownsRow.stored hrow (acc.length * 2 + 1) (.int .i64 t)).1
  rw [flat_set] at hst
  refine ⟨?_, h.2.setCell (p := ⟨g, acc.length * 2 + 1, none⟩) (World.ownsRow.lt hrow g rfl).1 _⟩
  show World.ownsRow _ _ _ _ _ _ _
  rw [show (acc ++ [(⟨y.fr, t⟩ : WindowD)]).length = acc.length + 1 by simp]
  exact hst
theorem GathW.last {w wr : World} {acc : List WindowD} {y : WindowD} {v : Value} (h : GathW w v (acc ++ [y]) wr) :
    ∃ g cap, v = .slice (some ⟨g, 0, none⟩) (acc.length + 1) cap ∧ wr.cell? ⟨g, acc.length * 2 + 1, none⟩ = some (.int .i64 y.tt) ∧ wr.frozen? ⟨g, acc.length * 2 + 1, none⟩ = false := by
  have hrow : wr.ownsRow w.heap.size 145 2 v (acc.length + 1) ((acc ++ [y]).flatMap WindowD.cells) := by
    have := h.1
    unfold OwnWindow OwnOf at this
    rw [show (acc ++ [y]).length = acc.length + 1 by simp] at this
    exact this
  obtain ⟨g, cap, rfl⟩ := ownsRow_succ hrow
  exact ⟨g, cap, rfl, (World.ownsRow.cellAt hrow (acc.length * 2 + 1) (by omega)).trans (flat_last acc y).2, World.ownsRow.frozenAt hrow _⟩
theorem GathW.nextN {w W w4 : World} {v : Value} {acc : List WindowD} {x : WindowD} {g4 cap4 n : Nat} (e : n = acc.length) (h : GathW w v acc W)
    (hown : w4.ownsRow w.heap.size 145 2 (.slice (some ⟨g4, 0, none⟩) (n + 1) cap4) (n + 1) (acc.flatMap WindowD.cells ++ x.cells)) (hgr : W.grownBy w4 v.ownBlock) :
    GathW w (.slice (some ⟨g4, 0, none⟩) (n + 1) cap4) (acc ++ [x]) w4 := by subst e; exact h.next hown hgr
theorem GathW.row {w W : World} {v : Value} {acc : List WindowD} {n : Nat} (e : n = acc.length) (h : GathW w v acc W) : W.ownsRow w.heap.size 145 2 v n (acc.flatMap WindowD.cells) := by subst e; exact h.1
set_option maxHeartbeats 8000000 in
theorem l04Of_any (v : Value) (l : List Bool) (w : World) (h : SlBool w v l) (hlen : l.length ≤ 100000) :
    Calls Tryz.prog 128 #[v] w (NewWindow (ofMarks (markF l) l.length) w) := by
  obtain ⟨i0, hin, hz0, hzs, hz2⟩ := info_parts info_window
  have HI := Lib.hid hin
  clear hin
  obtain ⟨hl, h⟩ := h
  rcases h with ⟨rfl, A, c, rfl⟩ | ⟨g, o, c, rfl, hp, hcap, hc⟩
  · go_enter Tryz.func128, Tryz.ntmps128
    go_wp2
    have G0 := Lib.hid (GathW.made (Below.refl w.heap.size w))
    refine wp_loop_rounds 1 ?_
    rw [rounds_succ]
    go_wp2
    go_ret
    exact G0.out.new rfl
  · have HC := Lib.hid hc
    clear hc
    go_enter Tryz.func128, Tryz.ntmps128
    go_wp2
    have G0 := Lib.hid (GathW.made (Below.refl w.heap.size w))
    go_loopw [3, 9] (fun s i wr => ∃ (k : Nat) (acc : List WindowD), k ≤ l.length ∧ i = .int .i64 k ∧ Hid (ofMarks (markF l) k = acc) ∧ Hid (GathW w s acc wr)) (fun _ i _ => l.length - (intOf i).toNat)
    case atStart => exact ⟨0, [], Nat.zero_le _, rfl, Lib.hid rfl, G0⟩
    case round =>
      obtain ⟨k, acc, hk, rfl, hE, hG⟩ := hrel
      have hal := ofMarks_len (markF l) k
      rw [hE.out] at hal
      have hsz := hG.out.size
      by_cases hlt : k < l.length
      rotate_left
      · obtain rfl : k = l.length := by omega
        go_wp2
        go_ret
        exact hG.out.new hE.out
      · obtain ⟨b, hb⟩ : ∃ b, l[k]? = some b := ⟨_, List.getElem?_eq_getElem hlt⟩
        have p0 := HC.out k b hb 0 _ rfl
        simp only [Nat.mul_one, Nat.add_zero] at p0
        have hg : g < w.heap.size := World.block_lt_of_cell? w ⟨g, o + k, none⟩ p0
        have a0 := (hG.out.2.cell (p := ⟨g, o + k, none⟩) hg).trans p0
        have hF := markF_at hb
        clear p0 hb
        cases b with
        | false =>
          have EF := Lib.hid ((ofMarks_no hF).trans hE.out)
          clear hF
          go_wp2
          go_roundw
          case rel => exact ⟨k + 1, _, by omega, by go_num, EF, hG⟩
          case measure => simp [intOf]; omega
        | true =>
          have EF := Lib.hid (ofMarks_yes hF)
          rw [hE.out] at EF
          clear hF
          rcases snoc_or acc with e | ⟨acc', y, e⟩
          · subst e
            rw [markStep_nil] at EF
            obtain ⟨A, c', rfl⟩ := hG.out.form
            have hW := Lib.hid (Joins.below_alloc1 wr (.cells #[.int .i64 k, .int .i64 k] 145))
            have GW := Lib.hid (hG.out.below hW.out)
            have HN := Lib.hid (World.news_of_block (heap_alloc_new wr (.cells #[.int .i64 k, .int .i64 k] 145)))
            go_wp2_with (at_builtin; refine wpList_append_lies _ rfl _ _ _ rfl w.heap.size 145 i0 _ 2 16 Tryz.underlying111 HI.out hz0 (by assumption) hz2 rfl (by omega) _ ([] : List WindowD).length (([] : List WindowD).flatMap WindowD.cells) rfl GW.out.1 ⟨wr.heap.size, 0, none⟩ 1 1 (WindowD.cells ⟨k, k⟩) (by first | rfl | simp) rfl (by simpa using HN.out) (window_one _) (by omega) (by unfold maxLen; omega) (by omega) (by simp; omega) _ rfl ?_; intro g4 cap4 w4 hown4 hgrow4 hor4 hlt4; have GX := Lib.hid (GW.out.next (x := ⟨k, k⟩) hown4 hgrow4); clear hown4 hgrow4 hor4 hlt4)
            go_roundw
            case rel => exact ⟨k + 1, _, by omega, by go_num, EF, GX⟩
            case measure => simp [intOf]; omega
          · subst e
            obtain ⟨g', cap, rfl, q1, q2⟩ := hG.out.last
            have hidx : (acc'.length : Int) < (acc'.length : Int) + 1 := by omega
            have hla : acc'.length + 1 ≤ k := by simpa using hal
            by_cases hy : y.tt = (k : Int) - 1
            · rw [markStep_join hy] at EF
              have GS := Lib.hid (hG.out.set (k : Int))
              go_wp2
              go_roundw
              case rel => exact ⟨k + 1, _, by omega, by go_num, EF, GS⟩
              case measure => simp [intOf]; omega
            · rw [markStep_apart hy] at EF
              have hW := Lib.hid (Joins.below_alloc1 wr (.cells #[.int .i64 k, .int .i64 k] 145))
              have GW := Lib.hid (hG.out.below hW.out)
              have HN := Lib.hid (World.news_of_block (heap_alloc_new wr (.cells #[.int .i64 k, .int .i64 k] 145)))
              have hel : acc'.length + 1 = (acc' ++ [y]).length := by simp
              obtain ⟨acc, hacc⟩ : ∃ acc, acc' ++ [y] = acc := ⟨_, rfl⟩
              rw [hacc] at hel GW EF
              have HEL := Lib.hid hel
              clear hacc hel
              go_wp2_with (at_builtin; refine wpList_append_lies _ rfl _ _ _ rfl w.heap.size 145 i0 _ 2 16 Tryz.underlying111 HI.out hz0 (by assumption) hz2 rfl (by omega) _ (acc'.length + 1) (acc.flatMap WindowD.cells) rfl (GW.out.row HEL.out) ⟨wr.heap.size, 0, none⟩ 1 1 (WindowD.cells ⟨k, k⟩) (by first | rfl | simp) rfl (by simpa using HN.out) (window_one _) (by omega) (by unfold maxLen; omega) (by omega) (by simp; omega) _ rfl ?_; intro g4 cap4 w4 hown4 hgrow4 hor4 hlt4; have GX := Lib.hid (GW.out.nextN (x := ⟨k, k⟩) HEL.out hown4 hgrow4); clear hown4 hgrow4 hor4 hlt4)
              go_roundw
              case rel => exact ⟨k + 1, _, by omega, by go_num, EF, GX⟩
              case measure => simp [intOf]; omega
end Go.Proofs.YtooeikimoheecaaGreat
namespace Go.Proofs.YtooeikimoheecaaGreat
open Go.RowKit
set_option maxRecDepth 100000
/-- The other end of the i-th segment, or -1. -/
def endP (d : ChartD) (i p : Int) : Int := match segAt d i with | some s => otherI s p | none => -1
theorem endP_none {d : ChartD} {i p : Int} (h : segAt d i = none) : endP d i p = -1 := by unfold endP; rw [h]
theorem endP_some {d : ChartD} {i p : Int} {s : SegmentD} (h : segAt d i = some s) : endP d i p = otherI s p := by unfold endP; rw [h]
/-- Where a route that has come along out goes on by segment i; negative: nowhere. -/
def nextPt (d : ChartD) (out : List Int) (i : Int) : Int := if out.any (· == endP d i (out.getLast?.getD 0)) = true then -1 else endP d i (out.getLast?.getD 0)
theorem stepP_nextI (d : ChartD) (out : List Int) (i : Int) : stepP d (some out) i = if nextPt d out i < 0 then none else some (out ++ [nextPt d out i]) := by
  unfold stepP nextPt endP
  cases h : segAt d i with
  | none => simp
  | some s =>
    simp only
    by_cases h1 : out.any (· == otherI s (out.getLast?.getD 0)) = true
    · rw [if_pos h1, if_pos (.inr h1)]; simp
    · rw [if_neg h1]
      by_cases h2 : otherI s (out.getLast?.getD 0) < 0
      · rw [if_pos (.inl h2), if_pos h2]
      · rw [if_neg (by rintro (h | h) <;> contradiction), if_neg h2]
set_option maxHeartbeats 2000000 in
theorem implOther (v0 v1 : Value) (d : ChartD) (i p : Int) (w : World) (h : RdChart w v0 v1 d) :
    Calls Tryz.prog 124 #[.agg #[v0, v1], .int .i64 i, .int .i64 p] w fun e w' => e = .returned (.int .i64 (endP d i p)) ∧ Below w.heap.size w w' := by
  obtain ⟨h0, h1⟩ := h
  obtain ⟨A0, c0, rfl⟩ := h0.at
  obtain ⟨A1, c1, rfl⟩ := h1.at
  have B := Lib.hid (Joins.below_alloc1 w (.cells #[.slice A0 d.points.length c0, .slice A1 d.segs.length c1] 49))
  have H1 := Lib.hid h1
  have hl1 := h1.1
  clear h0 h1
  cases hin : inB i 0 ((d.segs.length : Int) - 1) with
  | false =>
    have HIN := Lib.hid hin
    have E := Lib.hid (endP_none (p := p) (segAt_out hin))
    clear hin
    go_enter Tryz.func124, Tryz.ntmps124
    go_wp2_with fail
    refine (isIndex_any _ _ _).mono ?_
    rw [HIN.out]
    rintro e w2 ⟨rfl, rfl⟩
    go_wp2
    go_ret
    exact ⟨ret_int E.out.symm, B.out⟩
  | true =>
    have HIN := Lib.hid hin
    obtain ⟨s, hs, hx, i0, ilt⟩ := segAt_in hin
    obtain ⟨k, rfl⟩ : ∃ k : Nat, i = (k : Int) := ⟨i.toNat, by omega⟩
    simp only [Int.toNat_natCast] at hx ilt
    have E0 := Lib.hid (endP_some (p := p) hs)
    clear hin hs i0
    rcases H1.out.2 with ⟨he, _⟩ | ⟨g, o, c, e, hpos, hcap, hc⟩
    · rw [he] at ilt; simp at ilt
    · injection e with hA _ hcp
      subst hA hcp
      obtain ⟨q0, q1, q2, q3, q4⟩ := SlSegment.cells hc k s hx
      have hg : g < w.heap.size := World.block_lt_of_cell? w ⟨g, o + k * 5, none⟩ q0
      have y0 := (B.out.cell (p := ⟨g, o + k * 5, none⟩) hg).trans q0
      have y1 := (B.out.cell (p := ⟨g, o + k * 5 + 1, none⟩) hg).trans q1
      have y2 := (B.out.cell (p := ⟨g, o + k * 5 + 2, none⟩) hg).trans q2
      have y3 := (B.out.cell (p := ⟨g, o + k * 5 + 3, none⟩) hg).trans q3
      have y4 := (B.out.cell (p := ⟨g, o + k * 5 + 4, none⟩) hg).trans q4
      obtain ⟨sa, sb, sd, sm, se⟩ := s
      clear q0 q1 q2 q3 q4 hx hc
      by_cases h1 : p = sa
      · have E := Lib.hid (show endP d (k : Int) p = sb by rw [E0.out]; exact if_pos h1)
        subst h1
        go_enter Tryz.func124, Tryz.ntmps124
        go_wp2_with fail
        refine (isIndex_any _ _ _).mono ?_
        rw [HIN.out]
        rintro e w2 ⟨rfl, rfl⟩
        go_wp2
        go_ret
        exact ⟨ret_int E.out.symm, B.out.alloc B.out.size _⟩
      · have e1 : (p == sa) = false := by simpa using h1
        by_cases h2 : p = sb
        · have E := Lib.hid (show endP d (k : Int) p = sa by rw [E0.out]; unfold otherI; rw [if_neg h1, if_pos h2])
          subst h2
          go_enter Tryz.func124, Tryz.ntmps124
          go_wp2_with fail
          refine (isIndex_any _ _ _).mono ?_
          rw [HIN.out]
          rintro e w2 ⟨rfl, rfl⟩
          go_wp2
          go_ret
          exact ⟨ret_int E.out.symm, B.out.alloc B.out.size _⟩
        · have e2 : (p == sb) = false := by simpa using h2
          have E := Lib.hid (show endP d (k : Int) p = -1 by rw [E0.out]; unfold otherI; rw [if_neg h1, if_neg h2])
          clear h1 h2
          go_enter Tryz.func124, Tryz.ntmps124
          go_wp2_with fail
          refine (isIndex_any _ _ _).mono ?_
          rw [HIN.out]
          rintro e w2 ⟨rfl, rfl⟩
          go_wp2
          go_ret
          exact ⟨ret_int E.out.symm, B.out.alloc B.out.size _⟩
set_option maxHeartbeats 1000000 in
theorem indexInt_any (v : Value) (l : List Int) (t : Int) (w : World) (h : SlInt w v l) :
    Calls Tryz.prog 137 #[v, .int .i64 t] w fun e w' => e = .returned (.int .i64 (firstI (fun x => t == x) l)) ∧ w = w' := by
  obtain ⟨hl, h⟩ := h
  rcases h with ⟨rfl, A, c, rfl⟩ | ⟨g, o, c, rfl, hp, hcap, hc⟩
  · go_enter Tryz.func137, Tryz.ntmps137
    go_wp2
    refine wp_loop_rounds 1 ?_
    rw [rounds_succ]
    go_wp2
    go_ret
    exact ⟨rfl, rfl⟩
  · have HC := Lib.hid hc
    clear hc
    go_enter Tryz.func137, Tryz.ntmps137
    go_wp2
    go_loop [8] (fun i => ∃ k : Nat, k ≤ l.length ∧ i = .int .i64 k ∧ Hid (NoOne (fun x => t == x) l k)) (fun i => l.length - (intOf i).toNat)
    case atStart => exact ⟨0, Nat.zero_le _, rfl, Lib.hid (NoOne.zero _ _)⟩
    case round =>
      obtain ⟨k, hk, rfl, hN⟩ := hrel
      by_cases hlt : k < l.length
      · obtain ⟨x, hx⟩ : ∃ x, l[k]? = some x := ⟨_, List.getElem?_eq_getElem hlt⟩
        have q0 := SlInt.cells HC.out k x hx
        have HX := Lib.hid hx
        clear hx
        cases he : (t == x) with
        | true =>
          have E := Lib.hid (firstI_at hN.out HX.out he)
          go_wp2
          go_ret
          exact ⟨ret_int E.out.symm, rfl⟩
        | false =>
          have N2 := Lib.hid (hN.out.next HX.out he)
          go_wp2
          go_round
          case rel => exact ⟨k + 1, by omega, by go_num, N2⟩
          case measure => simp [intOf]; omega
      · obtain rfl : k = l.length := by omega
        have E := Lib.hid (firstI_none hN.out)
        go_wp2
        go_ret
        exact ⟨ret_int E.out.symm, rfl⟩
theorem first_any (l : List Int) (t : Int) : decide (0 ≤ firstI (fun x => t == x) l) = l.any (· == t) := by
  unfold firstI
  cases h : l.findIdx? (fun x => t == x) with
  | none =>
    rw [List.findIdx?_eq_none_iff] at h
    rw [List.any_eq_false.2 (fun x hx => by have := h x hx; simp at this ⊢; exact fun e => this e.symm)]; rfl
  | some i =>
    rw [List.findIdx?_eq_some_iff_getElem] at h
    obtain ⟨hi, hj, _⟩ := h
    rw [List.any_eq_true.2 ⟨_, List.getElem_mem hi, by simp at hj ⊢; exact hj.symm⟩]
    exact decide_eq_true (show (0 : Int) ≤ (i : Int) by omega)
theorem contains_any (v : Value) (l : List Int) (t : Int) (w : World) (h : SlInt w v l) :
    Calls Tryz.prog 125 #[v, .int .i64 t] w fun e w' => e = .returned (.bool (l.any (· == t))) ∧ w = w' := by
  have HS := Lib.hid h
  have E := Lib.hid (first_any l t)
  obtain ⟨A, c, rfl⟩ := h.at
  clear h
  go_enter Tryz.func125, Tryz.ntmps125
  go_wp2_with fail
  refine (indexInt_any _ l t _ HS.out).mono ?_
  rintro e w2 ⟨rfl, rfl⟩
  go_wp2
  go_ret
  exact ⟨ret_bool E.out, rfl⟩
set_option maxHeartbeats 2000000 in
theorem implNext (v0 v1 : Value) (d : ChartD) (v : Value) (out : List Int) (i : Int) (w : World) (h : RdChart w v0 v1 d) (hv : SlInt w v out) (hne : out ≠ []) :
    Calls Tryz.prog 110 #[.agg #[v0, v1], v, .int .i64 i] w fun e w' => e = .returned (.int .i64 (nextPt d out i)) ∧ Below w.heap.size w w' := by
  have HR := Lib.hid h
  obtain ⟨h0, h1⟩ := h
  obtain ⟨A0, c0, rfl⟩ := h0.at
  obtain ⟨A1, c1, rfl⟩ := h1.at
  have HV := Lib.hid hv
  have hol := hv.1
  obtain ⟨W0, hW0⟩ : ∃ W0, W0 = (w.alloc (.cells #[.slice A0 d.points.length c0, .slice A1 d.segs.length c1] 49)) := ⟨_, rfl⟩
  have B := Lib.hid (show Below w.heap.size w W0 by rw [hW0]; exact Joins.below_alloc1 _ _)
  have BD := Lib.hid (show Below w.heap.size w W0.drew by rw [hW0]; exact (Joins.below_alloc1 _ _).drew)
  have bb : Blk W0 w.heap.size #[.slice A0 d.points.length c0, .slice A1 d.segs.length c1] 49 := by rw [hW0]; exact Blk.new w _ _
  have z0 := bb.cell 0
  have z1 := bb.cell 1
  simp at z0 z1
  have HW0 := Lib.hid hW0
  clear bb hW0
  clear h0 h1 hv
  rcases HV.out.2 with ⟨he, _⟩ | ⟨g, o, c, rfl, hpos, hcap, hc⟩
  · exact absurd he hne
  · obtain ⟨k, hk⟩ : ∃ k, out.length = k + 1 := ⟨out.length - 1, by omega⟩
    obtain ⟨z, hz⟩ : ∃ z, out[k]? = some z := ⟨_, List.getElem?_eq_getElem (by omega)⟩
    have hzl : out.getLast? = some z := by rw [List.getLast?_eq_getElem?, show out.length - 1 = k by omega]; exact hz
    have HZ := Lib.hid hzl
    have q0 := SlInt.cells hc k z hz
    have hg : g < w.heap.size := World.block_lt_of_cell? w ⟨g, o + k, none⟩ q0
    have y0 := (B.out.cell (p := ⟨g, o + k, none⟩) hg).trans q0
    have hkl : k < out.length := by omega
    have hsub : IntKind.i64.wrap ((out.length : Int) - 1) = (k : Int) := by rw [IntKind.wrap_i64]; omega
    clear q0 hz hc hzl hk
    obtain ⟨t, ht⟩ : ∃ t, endP d i z = t := ⟨_, rfl⟩
    have HT := Lib.hid ht
    obtain ⟨b, hb⟩ : ∃ b, out.any (· == t) = b := ⟨_, rfl⟩
    have HB := Lib.hid hb
    clear ht hb
    go_enter Tryz.func110, Tryz.ntmps110
    go_wp2
    rw [← HW0.out]
    clear HW0
    go_still_tail 8, (by kernel_rfl)
    change wpList _ _ _ _ _ W0.drew
    generalize W0.drew = w2 at BD ⊢
    clear y0 z0 z1
    go_wp2_with fail
    refine (implOther _ _ d i z _ (HR.out.below BD.out)).mono ?_
    rw [HT.out]
    rintro e w3 ⟨rfl, hb3⟩
    have B3 := Lib.hid (BD.out.trans (hb3.mono BD.out.size))
    clear hb3
    go_wp2_with fail
    refine (contains_any _ out t _ (HV.out.below B3.out)).mono ?_
    rw [HB.out]
    rintro e w4 ⟨rfl, rfl⟩
    cases b with
    | true =>
      have E := Lib.hid (show nextPt d out i = -1 by unfold nextPt; rw [HZ.out, Option.getD_some, HT.out, HB.out]; rfl)
      go_wp2
      go_ret
      exact ⟨ret_int E.out.symm, B3.out⟩
    | false =>
      have E := Lib.hid (show nextPt d out i = t by unfold nextPt; rw [HZ.out, Option.getD_some, HT.out, HB.out]; rfl)
      go_wp2
      go_ret
      exact ⟨ret_int E.out.symm, B3.out⟩
end Go.Proofs.YtooeikimoheecaaGreat
