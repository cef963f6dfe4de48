
/- What ExactSureStarts and ExactOpenStarts and ExactIsSure and ExactIsOpenStart and ExactDraughtFor rests on, part 13: contracts and mathematics. -/
import Derived.Test.YtpimcbhjkednpaaGreatSt11
import Derived.Test.YtpimcbhjkednpaaGreatSt12
import Derived.Test.YtpimcbhjkednpaaGreatSt7
import Derived.Test.YtpimcbhjkednpaaGreatSt1
import Derived.Test.YtpimcbhjkednpaaGreatSt9
namespace Go.Proofs.YtpimcbhjkednpaaGreat
open Go.RowKit
set_option maxRecDepth 100000
theorem headB_le {s : List SurgeD} {t : Int} (h : headB s = true) (ht : 0 ≤ t) : ∀ x, s[0]? = some x → x.fr ≤ t := by
  intro x hx
  rw [headB_of hx] at h
  have := of_decide_eq_true h
  omega
set_option maxHeartbeats 1000000 in
theorem surgeIndex_any (u : Value) (s : List SurgeD) (t : Int) (w : World) (h : SlSurge w u s) (h0 : 0 < s.length) (hx0 : ∀ x, s[0]? = some x → x.fr ≤ t) :
    Calls Tryz.prog 135 #[u, .int .i64 t] w fun e w' => e = .returned (.int .i64 (lastLe s t s.length : Nat)) ∧ w = w' := by
  obtain ⟨hl, h⟩ := h
  rcases h with ⟨rfl, A, c, rfl⟩ | ⟨g, o, c, rfl, hp, hcap, hc⟩
  · exact absurd h0 (by simp)
  · have HC := Lib.hid hc
    have HX0 := Lib.hid hx0
    clear hc hx0
    go_enter Tryz.func135, Tryz.ntmps135
    go_wp2
    go_loop [5] (fun i => ∃ k : Nat, k < s.length ∧ i = .int .i64 k ∧ Hid (lastLe s t s.length = lastLe s t (k + 1))) (fun i => (intOf i).toNat)
    case atStart => exact ⟨s.length - 1, by omega, by go_num, Lib.hid (by rw [show s.length - 1 + 1 = s.length by omega])⟩
    case round =>
      obtain ⟨k, hk, rfl, hF⟩ := hrel
      obtain ⟨x, hx⟩ : ∃ x, s[k]? = some x := ⟨_, List.getElem?_eq_getElem hk⟩
      obtain ⟨p0, _, _⟩ := SlSurge.cells HC.out k x hx
      have HX := Lib.hid hx
      clear hx
      by_cases hle : x.fr ≤ t
      · have E := Lib.hid (hF.out.trans (lastLe_yes HX.out hle))
        have hd : decide (t < x.fr) = false := decide_eq_false (by omega)
        go_wp2
        go_ret
        exact ⟨ret_int (by rw [E.out]), rfl⟩
      · have F := Lib.hid (hF.out.trans (lastLe_no HX.out hle))
        have hk0 : 0 < k := by
          rcases Nat.eq_zero_or_pos k with e | e
          · exact absurd (HX0.out x (e ▸ HX.out)) hle
          · exact e
        have hd : decide (t < x.fr) = true := decide_eq_true (by omega)
        have hgt : t < x.fr := by omega
        go_wp2
        go_round
        case rel => exact ⟨k - 1, by omega, by go_num, Lib.hid (by rw [show k - 1 + 1 = k by omega]; exact F.out)⟩
        case measure => simp [intOf]; omega
/-- The results of SurgeAt: zero values outside. -/
def sAt (m : Int) (l : List PartD) (s : List SurgeD) (t : Int) : Bool := fcB m l s && inB t 0 2880
def sRes (m : Int) (l : List PartD) (s : List SurgeD) (t : Int) : Value :=
  if sAt m l s t = true then .tuple #[.int .i64 (atS s t).lo, .int .i64 (atS s t).hi, .bool true] else .tuple #[.int .i64 0, .int .i64 0, .bool false]
theorem sRes_yes {m : Int} {l : List PartD} {s : List SurgeD} {t : Int} (h : sAt m l s t = true) : sRes m l s t = .tuple #[.int .i64 (atS s t).lo, .int .i64 (atS s t).hi, .bool true] := if_pos h
theorem sRes_no {m : Int} {l : List PartD} {s : List SurgeD} {t : Int} (h : sAt m l s t = false) : sRes m l s t = .tuple #[.int .i64 0, .int .i64 0, .bool false] := if_neg (by rw [h]; simp)
theorem sAt_true {m : Int} {l : List PartD} {s : List SurgeD} {t : Int} (h : sAt m l s t = true) : fcB m l s = true ∧ 0 ≤ t ∧ t ≤ 2880 := by
  unfold sAt at h
  rw [Bool.and_eq_true] at h
  have := of_decide_eq_true (show decide (0 ≤ t ∧ t ≤ 2880) = true from h.2)
  exact ⟨h.1, this⟩
theorem sAt_mk {m : Int} {l : List PartD} {s : List SurgeD} {t : Int} (h : fcB m l s = true) (h' : inB t 0 2880 = true) : sAt m l s t = true := by unfold sAt; rw [h, h']; rfl
theorem sAt_no1 {m : Int} {l : List PartD} {s : List SurgeD} {t : Int} (h : fcB m l s = false) : sAt m l s t = false := by unfold sAt; rw [h]; rfl
theorem sAt_no2 {m : Int} {l : List PartD} {s : List SurgeD} {t : Int} (h : inB t 0 2880 = false) : sAt m l s t = false := by unfold sAt; rw [h]; simp
theorem ret_val {a b : Value} (h : a = b) : Ending.returned a = .returned b := by rw [h]
set_option maxHeartbeats 2000000 in
theorem implSurgeAt (m : Int) (v u : Value) (l : List PartD) (s : List SurgeD) (t : Int) (w : World) (h : SlP w v l) (h' : SlSurge w u s) :
    Calls Tryz.prog 131 #[.agg #[.int .i64 m, v, u], .int .i64 t] w fun e w' => e = .returned (sRes m l s t) ∧ Below w.heap.size w w' := by
  have H := Lib.hid h
  have H' := Lib.hid h'
  obtain ⟨A, c, rfl⟩ := h.at
  cases hf : fcB m l s with
  | false =>
    obtain ⟨A', c', rfl⟩ := h'.at
    have HF := Lib.hid hf
    have E := Lib.hid (sRes_no (sAt_no1 (t := t) hf))
    clear h h' hf
    go_enter Tryz.func131, Tryz.ntmps131
    go_wp2_with fail
    refine (implForecastOk m _ _ l s _ (H.out.below (Joins.below_alloc1 _ _)) (H'.out.below (Joins.below_alloc1 _ _))).mono ?_
    rw [HF.out]
    rintro e w1 ⟨rfl, hb1⟩
    go_wp2
    refine bodyPost_ret (v := .tuple #[.int .i64 0, .int .i64 0, .bool false]) (by simp [results, Tryz.results131, go_sem]) rfl ?_
    exact ⟨ret_val E.out.symm, (Joins.below_alloc1 _ _).trans (hb1.mono (by simp))⟩
  | true =>
    cases hm : inB t 0 2880 with
    | false =>
      obtain ⟨A', c', rfl⟩ := h'.at
      have HF := Lib.hid hf
      have HM := Lib.hid hm
      have E := Lib.hid (sRes_no (m := m) (l := l) (s := s) (sAt_no2 hm))
      clear h h' hf hm
      go_enter Tryz.func131, Tryz.ntmps131
      go_wp2_with fail
      refine (implForecastOk m _ _ l s _ (H.out.below (Joins.below_alloc1 _ _)) (H'.out.below (Joins.below_alloc1 _ _))).mono ?_
      rw [HF.out]
      rintro e w1 ⟨rfl, hb1⟩
      go_wp2_with fail
      refine (isMinute_any _ _).mono ?_
      rw [HM.out]
      rintro e w2 ⟨rfl, rfl⟩
      go_wp2
      refine bodyPost_ret (v := .tuple #[.int .i64 0, .int .i64 0, .bool false]) (by simp [results, Tryz.results131, go_sem]) rfl ?_
      exact ⟨ret_val E.out.symm, (Joins.below_alloc1 _ _).trans (hb1.mono (by simp))⟩
    | true =>
      obtain ⟨_, s0, s6, hh, hall⟩ := fcB_true hf
      have hat := sAt_mk hf hm
      obtain ⟨_, t0, t1⟩ := sAt_true hat
      have E := Lib.hid (sRes_yes hat)
      have HH := Lib.hid (headB_le hh t0)
      have HF := Lib.hid hf
      have HM := Lib.hid hm
      have hK := lastLe_lt (s := s) (t := t) s0 _ (Nat.le_refl _)
      have hx := atS_of (s := s) (t := t) s0
      obtain ⟨K, eK⟩ : ∃ K, lastLe s t s.length = K := ⟨_, rfl⟩
      rw [eK] at hx hK
      have EK := Lib.hid eK
      obtain ⟨_, h'⟩ := h'
      rcases h' with ⟨rfl, A', c', rfl⟩ | ⟨g, o, c', rfl, hp, hcap, hc⟩
      · exact absurd s0 (by simp)
      · obtain ⟨p0, p1, p2⟩ := SlSurge.cells hc K _ hx
        have hg : g < w.heap.size := World.block_lt_of_cell? w ⟨g, o + K * 3, none⟩ p0
        clear hc h hf hm hh hall hat hx eK
        obtain ⟨xa, xl, xh, hxx⟩ : ∃ a b d, atS s t = ⟨a, b, d⟩ := ⟨_, _, _, rfl⟩
        rw [hxx] at p0 p1 p2
        have HXX := Lib.hid hxx
        clear hxx
        simp only at p0 p1 p2
        go_enter Tryz.func131, Tryz.ntmps131
        go_wp2_with fail
        refine (implForecastOk m _ _ l s _ (H.out.below (Joins.below_alloc1 _ _)) (H'.out.below (Joins.below_alloc1 _ _))).mono ?_
        rw [HF.out]
        rintro e w1 ⟨rfl, hb1⟩
        have B1 := Lib.hid ((Joins.below_alloc1 w (.cells #[.int .i64 m, .slice A l.length c, .slice (some ⟨g, o, none⟩) s.length c'] 44)).trans (hb1.mono (by simp)))
        have X1 : w1.cell? ⟨w.heap.size, 2, none⟩ = some (.slice (some ⟨g, o, none⟩) s.length c') := (hb1.cell (p := ⟨w.heap.size, 2, none⟩) (by simp)).trans (by rw [World.cell?_alloc_at _ _ _ _ rfl]; rfl)
        have a0 := (B1.out.cell (p := ⟨g, o + K * 3, none⟩) hg).trans p0
        have a1 := (B1.out.cell (p := ⟨g, o + K * 3 + 1, none⟩) hg).trans p1
        have a2 := (B1.out.cell (p := ⟨g, o + K * 3 + 2, none⟩) hg).trans p2
        have hgs : g < w1.heap.size := by have := B1.out.size; omega
        have hbs : w.heap.size < w1.heap.size := by have := hb1.size; simp at this; omega
        clear hb1 p0 p1 p2
        go_wp2_with fail
        refine (isMinute_any _ _).mono ?_
        rw [HM.out]
        rintro e w2 ⟨rfl, rfl⟩
        go_wp2
        have D1 := Lib.hid ((Below.refl w1.heap.size w1).drew)
        have D2 := Lib.hid (((Below.refl w1.heap.size w1).alloc (Nat.le_refl _) (.cells #[.int .i64 0, .int .i64 0, .int .i64 0] 102)).drew)
        have D3 := Lib.hid (((Below.refl w1.heap.size w1).alloc (Nat.le_refl _) (.cells #[.int .i64 xa, .int .i64 xl, .int .i64 xh] 102)).drew)
        go_region_held3 (fun w' => w'.cell? ⟨w.heap.size, 2, none⟩ = some (.slice (some ⟨g, o, none⟩) s.length c') ∧ w'.cell? ⟨g, o + K * 3, none⟩ = some (.int .i64 xa) ∧ w'.cell? ⟨g, o + K * 3 + 1, none⟩ = some (.int .i64 xl) ∧ w'.cell? ⟨g, o + K * 3 + 2, none⟩ = some (.int .i64 xh) ∧ Hid (Below w1.heap.size w1 w')) (go_keep)
          (first
            | (go_at_call 135; refine (surgeIndex_any _ s t _ (H'.out.below (B1.out.trans (Below.mono (Hid.out (by assumption)) B1.out.size))) s0 HH.out).mono ?_; rw [EK.out]; rintro e w7 ⟨rfl, rfl⟩))
        all_goals
          go_wp2
          go_quiet (fail)
          go_wp2
          go_ret3
          refine ⟨ret_val (by rw [E.out, HXX.out]; rfl), ?_⟩
          repeat (first | exact B1.out | refine below_drewN ?_ _ | refine Below.drew ?_ | refine Below.setCell ?_ (by first | omega | (simp <;> omega)) _ | refine Below.alloc ?_ (by first | omega | (simp <;> omega)) _)
set_option maxHeartbeats 2000000 in
theorem l03Surge_any (m : Int) (v u : Value) (l : List PartD) (s : List SurgeD) (t : Int) (w : World) (h : SlP w v l) (h' : SlSurge w u s) (h0 : 0 < s.length) :
    Calls Tryz.prog 96 #[.agg #[.int .i64 m, v, u], .int .i64 t] w fun e w' => e = .returned (.agg #[.int .i64 (atS s t).fr, .int .i64 (atS s t).lo, .int .i64 (atS s t).hi]) ∧ Below w.heap.size w w' := by
  obtain ⟨A, c, rfl⟩ := h.at
  clear h
  obtain ⟨hl, h'⟩ := h'
  rcases h' with ⟨rfl, A', c', rfl⟩ | ⟨g, o, c', rfl, hp, hcap, hc⟩
  · exact absurd h0 (by simp)
  · have HC := Lib.hid hc
    obtain ⟨x0, hx0⟩ : ∃ x, s[0]? = some x := ⟨_, List.getElem?_eq_getElem hp⟩
    obtain ⟨q0, q1, q2⟩ := SlSurge.cells hc 0 x0 hx0
    simp only [Nat.zero_mul, Nat.add_zero] at q0 q1 q2
    have hg : g < w.heap.size := World.block_lt_of_cell? w ⟨g, o, none⟩ q0
    have Z := Lib.hid (atK_zero (t := t) hx0)
    clear hc hx0
    go_enter Tryz.func96, Tryz.ntmps96
    go_wp2
    go_loopw [15] (fun i wr => ∃ k : Nat, k ≤ s.length ∧ i = .int .i64 k ∧ Hid (Blk wr (w.heap.size + 1) #[.int .i64 0, .int .i64 0, .int .i64 0] 102) ∧ Hid (Blk wr (w.heap.size + 1 + 1) #[.int .i64 (atK s t k).fr, .int .i64 (atK s t k).lo, .int .i64 (atK s t k).hi] 102) ∧ Hid (Below w.heap.size w wr)) (fun i _ => s.length - (intOf i).toNat)
    case atStart =>
      refine ⟨0, Nat.zero_le _, rfl, Lib.hid ?_, Lib.hid ?_, Lib.hid ?_⟩
      · exact (Blk.newAt (by simp) _ _).below (Joins.below_alloc1 _ _)
      · rw [Z.out]; exact Blk.newAt (by simp) _ _
      · repeat (first | exact Below.refl _ _ | refine Below.setCell ?_ (by first | omega | (simp <;> omega)) _ | refine Below.alloc ?_ (by first | omega | (simp <;> omega)) _)
    case round =>
      obtain ⟨k, hk, rfl, hR, hO, hb⟩ := hrel
      have hlt2 := hO.out.lt
      have o0 := hO.out.cell 0
      have o1 := hO.out.cell 1
      have o2 := hO.out.cell 2
      have r0 := hR.out.cell 0
      have r1 := hR.out.cell 1
      have r2 := hR.out.cell 2
      simp at o0 o1 o2 r0 r1 r2
      have of0 := hO.out.free 0
      have of1 := hO.out.free 1
      have of2 := hO.out.free 2
      have rf0 := hR.out.free 0
      have rf1 := hR.out.free 1
      have rf2 := hR.out.free 2
      by_cases hlt : k < s.length
      · obtain ⟨x, hx⟩ : ∃ x, s[k]? = some x := ⟨_, List.getElem?_eq_getElem hlt⟩
        obtain ⟨p0, p1, p2⟩ := SlSurge.cells HC.out k x hx
        have a0 := (hb.out.cell (p := ⟨g, o + k * 3, none⟩) hg).trans p0
        have a1 := (hb.out.cell (p := ⟨g, o + k * 3 + 1, none⟩) hg).trans p1
        have a2 := (hb.out.cell (p := ⟨g, o + k * 3 + 2, none⟩) hg).trans p2
        have HX := Lib.hid hx
        clear p0 p1 p2 hx
        by_cases hle : x.fr ≤ t
        · have F := Lib.hid (atK_yes HX.out hle)
          have hd : decide (x.fr ≤ t) = true := decide_eq_true hle
          go_wp2
          go_roundw
          case rel =>
            refine ⟨k + 1, by omega, by go_num, Lib.hid ?_, Lib.hid ?_, Lib.hid ?_⟩
            · exact (((hR.out.other (by omega) _ _).other (by omega) _ _).other (by omega) _ _).below (Joins.below_alloc1 _ _)
            · rw [F.out]; exact (((hO.out.set 0 _).set 1 _).set 2 _).below (Joins.below_alloc1 _ _)
            · have hs := hb.out.size
              repeat (first | exact hb.out | refine Below.setCell ?_ (by first | omega | (simp <;> omega)) _ | refine Below.alloc ?_ (by first | omega | (simp <;> omega)) _)
          case measure => simp [intOf]; omega
        · have F := Lib.hid (atK_no HX.out hle)
          have hd : decide (x.fr ≤ t) = false := decide_eq_false hle
          go_wp2
          go_roundw
          case rel =>
            refine ⟨k + 1, by omega, by go_num, Lib.hid ?_, Lib.hid ?_, Lib.hid ?_⟩
            · exact hR.out.below (Joins.below_alloc1 _ _)
            · rw [F.out]; exact hO.out.below (Joins.below_alloc1 _ _)
            · have hs := hb.out.size
              repeat (first | exact hb.out | refine Below.setCell ?_ (by first | omega | (simp <;> omega)) _ | refine Below.alloc ?_ (by first | omega | (simp <;> omega)) _)
          case measure => simp [intOf]; omega
      · obtain rfl : k = s.length := by omega
        have eA := atK_all s t
        rw [eA] at o0 o1 o2
        clear eA hO hR
        go_wp2
        refine bodyPost_ret (v := .agg #[.int .i64 (atS s t).fr, .int .i64 (atS s t).lo, .int .i64 (atS s t).hi]) (by simp [results, Tryz.results96, go_sem, *]) rfl ⟨rfl, ?_⟩
        have hs := hb.out.size
        repeat (first | exact hb.out | refine Below.setCell ?_ (by first | omega | (simp <;> omega)) _ | refine Below.alloc ?_ (by first | omega | (simp <;> omega)) _)
set_option maxHeartbeats 2000000 in
theorem specSurgeAt (m : Int) (v u : Value) (l : List PartD) (s : List SurgeD) (t : Int) (w : World) (h : SlP w v l) (h' : SlSurge w u s) :
    Calls Tryz.prog 90 #[.agg #[.int .i64 m, v, u], .int .i64 t] w fun e w' => e = .returned (sRes m l s t) ∧ Below w.heap.size w w' := by
  have H := Lib.hid h
  have H' := Lib.hid h'
  obtain ⟨A, c, rfl⟩ := h.at
  obtain ⟨A', c', rfl⟩ := h'.at
  clear h h'
  cases hf : fcB m l s with
  | false =>
    have HF := Lib.hid hf
    have E := Lib.hid (sRes_no (sAt_no1 (t := t) hf))
    clear hf
    go_enter Tryz.func90, Tryz.ntmps90
    go_wp2_with fail
    refine (specForecastOk m _ _ l s _ (H.out.below (Joins.below_alloc1 _ _)) (H'.out.below (Joins.below_alloc1 _ _))).mono ?_
    rw [HF.out]
    rintro e w1 ⟨rfl, hb1⟩
    go_wp2
    go_ret3
    exact ⟨ret_val E.out.symm, (Joins.below_alloc1 _ _).trans (hb1.mono (by simp))⟩
  | true =>
    cases hm : inB t 0 2880 with
    | false =>
      have HF := Lib.hid hf
      have HM := Lib.hid hm
      have E := Lib.hid (sRes_no (m := m) (l := l) (s := s) (sAt_no2 hm))
      clear hf hm
      go_enter Tryz.func90, Tryz.ntmps90
      go_wp2_with fail
      refine (specForecastOk m _ _ l s _ (H.out.below (Joins.below_alloc1 _ _)) (H'.out.below (Joins.below_alloc1 _ _))).mono ?_
      rw [HF.out]
      rintro e w1 ⟨rfl, hb1⟩
      go_wp2_with fail
      refine (l01In_any _ _ _ _).mono ?_
      rw [HM.out]
      rintro e w2 ⟨rfl, rfl⟩
      go_wp2
      go_ret3
      exact ⟨ret_val E.out.symm, (Joins.below_alloc1 _ _).trans (hb1.mono (by simp))⟩
    | true =>
      obtain ⟨_, s0, _, _, _⟩ := fcB_true hf
      have E := Lib.hid (sRes_yes (sAt_mk hf hm))
      have HF := Lib.hid hf
      have HM := Lib.hid hm
      have F0 := Lib.hid (FBox.new 44 (m := m) H.out H'.out)
      clear hf hm
      go_enter Tryz.func90, Tryz.ntmps90
      go_wp2_with fail
      refine (specForecastOk m _ _ l s _ F0.out.2.2.2.1 F0.out.2.2.2.2).mono ?_
      rw [HF.out]
      rintro e w1 ⟨rfl, hb1⟩
      have B1 := Lib.hid ((Joins.below_alloc1 w (.cells #[.int .i64 m, .slice A l.length c, .slice A' s.length c'] 44)).trans (hb1.mono (by simp)))
      have F1 := Lib.hid (F0.out.below hb1)
      obtain ⟨x0, x1, x2, _, _⟩ := F1.out
      clear hb1
      go_wp2_with fail
      refine (l01In_any _ _ _ _).mono ?_
      rw [HM.out]
      rintro e w2 ⟨rfl, rfl⟩
      go_wp2_with fail
      refine (l03Surge_any m _ _ l s t _ F1.out.2.2.2.1 F1.out.2.2.2.2 s0).mono ?_
      rintro e w3 ⟨rfl, hb3⟩
      have B3 := Lib.hid (B1.out.trans (hb3.mono B1.out.size))
      have hs := B3.out.size
      clear hb3
      go_wp2
      go_quiet (fail)
      go_wp2
      go_ret3
      refine ⟨ret_val E.out.symm, ?_⟩
      repeat (first | exact B3.out | refine below_drewN ?_ _ | refine Below.drew ?_ | refine Below.setCell ?_ (by first | omega | (simp <;> omega)) _ | refine Below.alloc ?_ (by first | omega | (simp <;> omega)) _)
end Go.Proofs.YtpimcbhjkednpaaGreat
namespace Go.Proofs.YtpimcbhjkednpaaGreat
open Go.RowKit
set_option maxRecDepth 100000
/-- The level at the end of the band that the second argument picks; 0 outside. -/
def endI (hi : Bool) (m : Int) (l : List PartD) (s : List SurgeD) (t : Int) : Int := if sAt m l s t = true then levI m l t + (if hi = true then (atS s t).hi else (atS s t).lo) else 0
theorem endI_no {hi : Bool} {m : Int} {l : List PartD} {s : List SurgeD} {t : Int} (h : sAt m l s t = false) : endI hi m l s t = 0 := if_neg (by rw [h]; simp)
theorem endI_lo {m : Int} {l : List PartD} {s : List SurgeD} {t : Int} (h : sAt m l s t = true) : endI false m l s t = levI m l t + (atS s t).lo := if_pos h
theorem endI_hi {m : Int} {l : List PartD} {s : List SurgeD} {t : Int} (h : sAt m l s t = true) : endI true m l s t = levI m l t + (atS s t).hi := if_pos h
theorem sAt_facts {m : Int} {l : List PartD} {s : List SurgeD} {t : Int} (h : sAt m l s t = true) : tideB m l = true ∧ 0 ≤ t ∧ t ≤ 2880 ∧ -5000 ≤ levI m l t ∧ levI m l t ≤ 5000 ∧ -500 ≤ (atS s t).lo ∧ (atS s t).lo ≤ (atS s t).hi ∧ (atS s t).hi ≤ 500 := by
  obtain ⟨hf, t0, t1⟩ := sAt_true h
  obtain ⟨ht, s0, _, _, hall⟩ := fcB_true hf
  obtain ⟨m0, m1, hlen, hpart⟩ := tideB_true ht
  have hl := levI_le m t l hpart
  have hs := surgeB_true (atS_ok (t := t) s0 hall)
  exact ⟨ht, t0, t1, by omega, by omega, hs.2.2.1, hs.2.2.2.1, hs.2.2.2.2⟩
theorem atI_sAt {m : Int} {l : List PartD} {s : List SurgeD} {t : Int} (h : sAt m l s t = true) : atI m l t = levI m l t := by
  obtain ⟨ht, t0, t1, _⟩ := sAt_facts h
  exact atI_yes ht t0 t1
theorem levelAt_keep {W : World} {b1 b2 : Nat} {m : Int} {v u : Value} {l : List PartD} {s : List SurgeD} {t xl xh : Int} (hT : FBox W b1 m v u l s) (w0 : World) (hb : Hid (Below W.heap.size W w0)) (h0 : w0.cell? ⟨b2, 0, none⟩ = some (.int .i64 xl)) (h1 : w0.cell? ⟨b2, 1, none⟩ = some (.int .i64 xh)) :
    Calls Tryz.prog 132 #[.agg #[.int .i64 m, v], .int .i64 t] w0 fun e w1 => e = .returned (.int .i64 (atI m l t)) ∧ w1.cell? ⟨b1, 0, none⟩ = some (.int .i64 m) ∧ w1.cell? ⟨b1, 1, none⟩ = some v ∧ w1.cell? ⟨b2, 0, none⟩ = some (.int .i64 xl) ∧ w1.cell? ⟨b2, 1, none⟩ = some (.int .i64 xh) ∧ Hid (Below W.heap.size W w1) := by
  have hT0 := hT.below hb.out
  refine (implLevelAt m v l t w0 hT0.2.2.2.1).mono ?_
  rintro e w1 ⟨rfl, hb1⟩
  have hT1 := hT0.below hb1
  exact ⟨rfl, hT1.1, hT1.2.1, cell_on h0 hb1, cell_on h1 hb1, Lib.hid (hb.out.trans (hb1.mono hb.out.size))⟩
set_option maxHeartbeats 2000000 in
theorem levelAtEndLo (m : Int) (v u : Value) (l : List PartD) (s : List SurgeD) (t : Int) (w : World) (h : SlP w v l) (h' : SlSurge w u s) :
    Calls Tryz.prog 126 #[.agg #[.int .i64 m, v, u], .int .i64 t, .int .i64 0] w fun e w' => e = .returned (.int .i64 (endI false m l s t)) ∧ Below w.heap.size w w' := by
  have H := Lib.hid h
  have H' := Lib.hid h'
  obtain ⟨A, c, rfl⟩ := h.at
  obtain ⟨A', c', rfl⟩ := h'.at
  clear h h'
  have F0 := Lib.hid (FBox.new 44 (m := m) H.out H'.out)
  have B0 := Lib.hid (Joins.below_alloc1 w (.cells #[.int .i64 m, .slice A l.length c, .slice A' s.length c'] 44))
  cases ha : sAt m l s t with
  | false =>
    have E := Lib.hid (endI_no (hi := false) ha)
    have R := Lib.hid (sRes_no ha)
    clear ha
    go_enter Tryz.func126, Tryz.ntmps126
    go_wp2_with fail
    refine (implSurgeAt m _ _ l s t _ F0.out.2.2.2.1 F0.out.2.2.2.2).mono ?_
    rw [R.out]
    rintro e w1 ⟨rfl, hb1⟩
    go_wp2
    go_ret
    exact ⟨ret_int E.out.symm, B0.out.trans (hb1.mono B0.out.size)⟩
  | true =>
    obtain ⟨_, _, _, l0, l1, q0, q1, q2⟩ := sAt_facts ha
    have E := Lib.hid (endI_lo ha)
    have R := Lib.hid (sRes_yes ha)
    have TA := Lib.hid (atI_sAt ha)
    obtain ⟨x, hx⟩ : ∃ x, atS s t = x := ⟨_, rfl⟩
    rw [hx] at q0 q1 q2
    have HX := Lib.hid hx
    obtain ⟨xa, xl, xh⟩ := x
    simp only at q0 q1 q2
    clear ha hx
    go_enter Tryz.func126, Tryz.ntmps126
    go_wp2_with fail
    refine (implSurgeAt m _ _ l s t _ F0.out.2.2.2.1 F0.out.2.2.2.2).mono ?_
    rw [R.out, HX.out]
    rintro e w1 ⟨rfl, hb1⟩
    have F1 := Lib.hid (F0.out.below hb1)
    have B1 := Lib.hid (B0.out.trans (hb1.mono B0.out.size))
    have hs := B1.out.size
    have hbs : w.heap.size < w1.heap.size := by have := hb1.size; simp at this; omega
    obtain ⟨x0, x1, _⟩ := F1.out
    clear hb1
    have D1 := Lib.hid (((Below.refl w1.heap.size w1).alloc (Nat.le_refl _) (.cells #[.int .i64 xl, .int .i64 xh] 164)).drew)
    have F2 := Lib.hid (F1.out.below ((Below.refl w1.heap.size w1).alloc (Nat.le_refl _) (.cells #[.int .i64 xl, .int .i64 xh] 164)))
    go_wp2
    go_region_held3 (fun w' => w'.cell? ⟨w.heap.size, 0, none⟩ = some (.int .i64 m) ∧ w'.cell? ⟨w.heap.size, 1, none⟩ = some (.slice A l.length c) ∧ w'.cell? ⟨w1.heap.size, 0, none⟩ = some (.int .i64 xl) ∧ w'.cell? ⟨w1.heap.size, 1, none⟩ = some (.int .i64 xh) ∧ Hid (Below w1.heap.size w1 w')) (go_keep)
      (first
        | (go_at_call 132; refine (levelAt_keep (b2 := w1.heap.size) (xl := xl) (xh := xh) (t := t) F1.out _ ?_ ?_ ?_).mono ?_; (simp [*]); (simp [*]); (simp [*]); rw [TA.out]; rintro e w7 ⟨rfl, y0, y1, y2, y3, y4⟩))
    all_goals
      go_wp2
      go_ret
      refine ⟨ret_int ?_, ?_⟩
      · rw [E.out, HX.out]; exact IntWalk.i64_in _ (by omega)
      · first | exact B1.out.trans (y4.out.mono B1.out.size) | skip
set_option maxHeartbeats 2000000 in
theorem levelAtEndHi (m : Int) (v u : Value) (l : List PartD) (s : List SurgeD) (t : Int) (w : World) (h : SlP w v l) (h' : SlSurge w u s) :
    Calls Tryz.prog 126 #[.agg #[.int .i64 m, v, u], .int .i64 t, .int .i64 1] w fun e w' => e = .returned (.int .i64 (endI true m l s t)) ∧ Below w.heap.size w w' := by
  have H := Lib.hid h
  have H' := Lib.hid h'
  obtain ⟨A, c, rfl⟩ := h.at
  obtain ⟨A', c', rfl⟩ := h'.at
  clear h h'
  have F0 := Lib.hid (FBox.new 44 (m := m) H.out H'.out)
  have B0 := Lib.hid (Joins.below_alloc1 w (.cells #[.int .i64 m, .slice A l.length c, .slice A' s.length c'] 44))
  cases ha : sAt m l s t with
  | false =>
    have E := Lib.hid (endI_no (hi := true) ha)
    have R := Lib.hid (sRes_no ha)
    clear ha
    go_enter Tryz.func126, Tryz.ntmps126
    go_wp2_with fail
    refine (implSurgeAt m _ _ l s t _ F0.out.2.2.2.1 F0.out.2.2.2.2).mono ?_
    rw [R.out]
    rintro e w1 ⟨rfl, hb1⟩
    go_wp2
    go_ret
    exact ⟨ret_int E.out.symm, B0.out.trans (hb1.mono B0.out.size)⟩
  | true =>
    obtain ⟨_, _, _, l0, l1, q0, q1, q2⟩ := sAt_facts ha
    have E := Lib.hid (endI_hi ha)
    have R := Lib.hid (sRes_yes ha)
    have TA := Lib.hid (atI_sAt ha)
    obtain ⟨x, hx⟩ : ∃ x, atS s t = x := ⟨_, rfl⟩
    rw [hx] at q0 q1 q2
    have HX := Lib.hid hx
    obtain ⟨xa, xl, xh⟩ := x
    simp only at q0 q1 q2
    clear ha hx
    go_enter Tryz.func126, Tryz.ntmps126
    go_wp2_with fail
    refine (implSurgeAt m _ _ l s t _ F0.out.2.2.2.1 F0.out.2.2.2.2).mono ?_
    rw [R.out, HX.out]
    rintro e w1 ⟨rfl, hb1⟩
    have F1 := Lib.hid (F0.out.below hb1)
    have B1 := Lib.hid (B0.out.trans (hb1.mono B0.out.size))
    have hs := B1.out.size
    have hbs : w.heap.size < w1.heap.size := by have := hb1.size; simp at this; omega
    obtain ⟨x0, x1, _⟩ := F1.out
    clear hb1
    have D1 := Lib.hid (((Below.refl w1.heap.size w1).alloc (Nat.le_refl _) (.cells #[.int .i64 xl, .int .i64 xh] 164)).drew)
    have F2 := Lib.hid (F1.out.below ((Below.refl w1.heap.size w1).alloc (Nat.le_refl _) (.cells #[.int .i64 xl, .int .i64 xh] 164)))
    go_wp2
    go_region_held3 (fun w' => w'.cell? ⟨w.heap.size, 0, none⟩ = some (.int .i64 m) ∧ w'.cell? ⟨w.heap.size, 1, none⟩ = some (.slice A l.length c) ∧ w'.cell? ⟨w1.heap.size, 0, none⟩ = some (.int .i64 xl) ∧ w'.cell? ⟨w1.heap.size, 1, none⟩ = some (.int .i64 xh) ∧ Hid (Below w1.heap.size w1 w')) (go_keep)
      (first
        | (go_at_call 132; refine (levelAt_keep (b2 := w1.heap.size) (xl := xl) (xh := xh) (t := t) F1.out _ ?_ ?_ ?_).mono ?_; (simp [*]); (simp [*]); (simp [*]); rw [TA.out]; rintro e w7 ⟨rfl, y0, y1, y2, y3, y4⟩))
    all_goals
      go_wp2
      go_ret
      refine ⟨ret_int ?_, ?_⟩
      · rw [E.out, HX.out]; exact IntWalk.i64_in _ (by omega)
      · first | exact B1.out.trans (y4.out.mono B1.out.size) | skip
set_option maxHeartbeats 2000000 in
theorem specLowAt (m : Int) (v u : Value) (l : List PartD) (s : List SurgeD) (t : Int) (w : World) (h : SlP w v l) (h' : SlSurge w u s) :
    Calls Tryz.prog 58 #[.agg #[.int .i64 m, v, u], .int .i64 t] w fun e w' => e = .returned (.int .i64 (endI false m l s t)) ∧ Below w.heap.size w w' := by
  have H := Lib.hid h
  have H' := Lib.hid h'
  obtain ⟨A, c, rfl⟩ := h.at
  obtain ⟨A', c', rfl⟩ := h'.at
  clear h h'
  have F0 := Lib.hid (FBox.new 44 (m := m) H.out H'.out)
  have B0 := Lib.hid (Joins.below_alloc1 w (.cells #[.int .i64 m, .slice A l.length c, .slice A' s.length c'] 44))
  cases ha : sAt m l s t with
  | false =>
    have E := Lib.hid (endI_no (hi := false) ha)
    have R := Lib.hid (sRes_no ha)
    clear ha
    go_enter Tryz.func58, Tryz.ntmps58
    go_wp2_with fail
    refine (specSurgeAt m _ _ l s t _ F0.out.2.2.2.1 F0.out.2.2.2.2).mono ?_
    rw [R.out]
    rintro e w1 ⟨rfl, hb1⟩
    go_wp2
    go_ret
    exact ⟨ret_int E.out.symm, B0.out.trans (hb1.mono B0.out.size)⟩
  | true =>
    obtain ⟨hti, t0, t1, l0, l1, q0, q1, q2⟩ := sAt_facts ha
    have E := Lib.hid (endI_lo ha)
    have R := Lib.hid (sRes_yes ha)
    have HTI := Lib.hid hti
    obtain ⟨x, hx⟩ : ∃ x, atS s t = x := ⟨_, rfl⟩
    rw [hx] at q0 q1 q2
    have HX := Lib.hid hx
    obtain ⟨xa, xl, xh⟩ := x
    simp only at q0 q1 q2
    clear ha hx hti
    go_enter Tryz.func58, Tryz.ntmps58
    go_wp2_with fail
    refine (specSurgeAt m _ _ l s t _ F0.out.2.2.2.1 F0.out.2.2.2.2).mono ?_
    rw [R.out, HX.out]
    rintro e w1 ⟨rfl, hb1⟩
    have F1 := Lib.hid (F0.out.below hb1)
    have B1 := Lib.hid (B0.out.trans (hb1.mono B0.out.size))
    obtain ⟨x0, x1, _⟩ := F1.out
    clear hb1
    go_wp2_with fail
    refine (l02Level_any m _ l t _ F1.out.2.2.2.1 HTI.out t0 t1).mono ?_
    rintro e w2 ⟨rfl, hb2⟩
    have B2 := Lib.hid (B1.out.trans (hb2.mono B1.out.size))
    clear hb2
    go_wp2
    go_ret
    exact ⟨ret_int (by rw [E.out, HX.out]), B2.out⟩
end Go.Proofs.YtpimcbhjkednpaaGreat
namespace Go.Proofs.YtpimcbhjkednpaaGreat
open Go.RowKit
section
variable {P : Program} {ops : Array Oper} {md : Region.Mode} {F : Fence} {n : Nat} {Q : Exit → Act → World → Prop} {S : World → Prop}
/-- Whatever order is picked, the first operations, k of them, come up ahead of all others. -/
def aheadB (md : Region.Mode) (ops : Array Oper) (k : Nat) : Nat → Array Bool → Bool
  | 0, listed => (List.range k).all fun i => listed.getD i true
  | f + 1, listed => !(Region.ready md ops listed).isEmpty && (Region.ready md ops listed).all fun i => decide (i < k) && aheadB md ops k f (listed.setIfInBounds i true)
def heldTo (F : Fence) (n : Nat) (P : Program) (md : Region.Mode) (ops : Array Oper) (Q : Exit → Act → World → Prop) (S : World → Prop) (R : Array Bool → Act → World → Prop) : Nat → Array Bool → Act → World → Prop
  | 0, listed, a, w => R listed a w
  | f + 1, listed, a, w => ∀ i ∈ Region.ready md ops listed, wpOpIn F n P ops Q i (fun a' w' => S w' ∧ heldTo F n P md ops Q S R f (listed.setIfInBounds i true) a' w') a w
theorem aheadB_succ {k f : Nat} {listed : Array Bool} (h : aheadB md ops k (f + 1) listed = true) : Region.ready md ops listed ≠ [] ∧ ∀ i ∈ Region.ready md ops listed, i < k ∧ aheadB md ops k f (listed.setIfInBounds i true) = true := by
  unfold aheadB at h
  simp only [Bool.and_eq_true, Bool.not_eq_true', List.all_eq_true, decide_eq_true_eq] at h
  exact ⟨fun e => by rw [e] at h; simp at h, h.2⟩
theorem anyIn_of_to {k g : Nat} {R : Array Bool → Act → World → Prop} (hR : ∀ listed a w, R listed a w → wpAnyIn F n P md ops Q g listed a w) :
    ∀ (f : Nat) (listed : Array Bool) (a : Act) (w : World), aheadB md ops k f listed = true → heldTo F n P md ops Q S R f listed a w → wpAnyIn F n P md ops Q (f + g) listed a w
  | 0, listed, a, w, _, h => by rw [Nat.zero_add]; exact hR _ _ _ h
  | f + 1, listed, a, w, hB, h => by
    rw [show f + 1 + g = (f + g) + 1 by omega]
    obtain ⟨h1, h2⟩ := aheadB_succ hB
    exact ⟨fun h0 => absurd h0 h1, fun i hi => wpOpIn_mono (fun a' w' h' => anyIn_of_to hR f _ a' w' (h2 i hi).2 h'.2) (h i hi)⟩
theorem heldTo_first (L : Lets F n P) (hd : noDefer ops = true) {k : Nat} {R : Array Bool → Act → World → Prop} {i : Nat} {oi : Oper} {v : Value} (hi : ops[i]? = some oi) (hsel : ∀ (j : Nat) (o : Oper) cs b, ops[j]? = some o → o.op ≠ .select cs b)
    (hQ : ∀ c a w, Q (.panic c) (a.put oi.dst v) w → Q (.panic c) a w) :
    ∀ (f : Nat) (listed : Array Bool) (a : Act) (w : World), aheadB md ops k (f + 1) listed = true →
      (∀ j oj, ops[j]? = some oj → j ≠ i → listed.getD j true = false → (∀ e ∈ oj.after, Region.binds md e = true → e.on ≠ i) → oi.apart ops oj = true) →
      i ∈ Region.ready md ops listed → YieldsIf P ops S oi v a → S w →
      heldTo F n P md ops Q S R f (listed.setIfInBounds i true) (a.put oi.dst v) w → heldTo F n P md ops Q S R (f + 1) listed a w := by
  intro f
  induction f with
  | zero =>
    intro listed a w hB _ hr hy hS H j hj
    by_cases hji : j = i
    · subst hji; exact yieldsIf_opIn L hd hi hy hS ⟨hS, H⟩
    · obtain ⟨_, h2⟩ := aheadB_succ hB
      have h3 := (h2 i hr).2
      unfold aheadB at h3
      rw [List.all_eq_true] at h3
      have h4 := h3 j (List.mem_range.2 (h2 j hj).1)
      have h5 := (mem_ready.1 (ready_mono hj hji)).1
      rw [h4] at h5
      cases h5
  | succ f ih =>
    intro listed a w hB hfree hr hy hS H j hj
    by_cases hji : j = i
    · subst hji; exact yieldsIf_opIn L hd hi hy hS ⟨hS, H⟩
    · have h1 := H j (ready_mono hj hji)
      obtain ⟨hjun, oj, hoj, hall⟩ := mem_ready.1 hj
      have hnot : ∀ e ∈ oj.after, Region.binds md e = true → e.on ≠ i := fun e he hb heq => by
        have h1 := hall e he hb
        have h0 := (mem_ready.1 hr).1
        rw [heq] at h1
        rcases Nat.lt_or_ge i listed.size with h' | h'
        · simp [h'] at h0 h1; rw [h0] at h1; cases h1
        · simp [Array.getElem?_eq_none h'] at h1
      have h2 := opIn_putIf L hd hoj (hfree j oj hoj hji hjun hnot) (fun cs b => hsel i oi cs b hi) (fun cs b => hsel j oj cs b hoj) hQ hy h1
      have hfree' : ∀ k ok, ops[k]? = some ok → k ≠ i → (listed.setIfInBounds j true).getD k true = false →
          (∀ e ∈ ok.after, Region.binds md e = true → e.on ≠ i) → oi.apart ops ok = true := fun k ok hk hki hun hno => by
        refine hfree k ok hk hki ?_ hno
        by_cases hjk : j = k
        · subst hjk; exact hjun
        · rw [getD_set_ne true hjk] at hun; exact hun
      refine wpOpIn_mono (fun a' w' h3 => ⟨h3.2.1, ih (listed.setIfInBounds j true) a' w' ((aheadB_succ hB).2 j hj).2 hfree' (ready_mono hr (Ne.symm hji)) h3.1 h3.2.1 ?_⟩) h2
      rw [Array.setIfInBounds_comm _ _ hji]
      exact h3.2.2
theorem heldTo_take (L : Lets F n P) (hd : noDefer ops = true) (k : Nat) {R : Array Bool → Act → World → Prop} {i : Nat} {oi : Oper} {v : Value} {f : Nat} {listed : Array Bool} {a : Act} {w : World} (hB : aheadB md ops k (f + 1) listed = true) (hi : ops[i]? = some oi)
    (hs : Region.noSelect ops = true) (hf : Region.free md ops listed i = true) (hr : (Region.ready md ops listed).contains i = true)
    (hQ : ∀ c a w, Q (.panic c) (a.put oi.dst v) w → Q (.panic c) a w) (hy : YieldsIf P ops S oi v a) (hS : S w)
    (h : heldTo F n P md ops Q S R f (listed.setIfInBounds i true) (a.put oi.dst v) w) : heldTo F n P md ops Q S R (f + 1) listed a w :=
  heldTo_first L hd hi (Region.noSelect_spec hs) hQ f listed a w hB (Region.free_spec hi hf) (by simpa using hr) hy hS h
theorem heldTo_one {i : Nat} {o : Oper} {R : Array Bool → Act → World → Prop} {f : Nat} {listed : Array Bool} {a : Act} {w : World} (hr : Region.ready md ops listed = [i]) (hi : ops[i]? = some o) (hw : Region.wanted o (yielded ops a.tmps) = true)
    (h : ∀ K : Act → World → Prop, Hid (∀ a' w', S w' → (S w' → heldTo F n P md ops Q S R f (listed.setIfInBounds i true) a' w') → K a' w') → Oper.wpIn F n P o a w K Q) : heldTo F n P md ops Q S R (f + 1) listed a w := by
  intro j hj
  rw [hr] at hj
  obtain rfl : j = i := by simpa using hj
  unfold wpOpIn
  simp only [hi, hw, if_true]
  exact h _ (Lib.hid fun a' w' h1 h2 => ⟨h1, h2 h1⟩)
theorem heldTo_end {R : Array Bool → Act → World → Prop} {listed : Array Bool} {a : Act} {w : World} (h : R listed a w) : heldTo F n P md ops Q S R 0 listed a w := h
/-- The rest, one that is alone at a time. -/
theorem anyIn_one {i : Nat} {o : Oper} {f : Nat} {listed : Array Bool} {a : Act} {w : World} (hr : Region.ready md ops listed = [i]) (hi : ops[i]? = some o) (hw : Region.wanted o (yielded ops a.tmps) = true)
    (h : ∀ K : Act → World → Prop, Hid (∀ a' w', wpAnyIn F n P md ops Q f (listed.setIfInBounds i true) a' w' → K a' w') → Oper.wpIn F n P o a w K Q) : wpAnyIn F n P md ops Q (f + 1) listed a w := by
  refine ⟨fun h0 => (by rw [hr] at h0; cases h0), fun j hj => ?_⟩
  rw [hr] at hj
  obtain rfl : j = i := by simpa using hj
  unfold wpOpIn
  simp only [hi, hw, if_true]
  exact h _ (Lib.hid fun a' w' h1 => h1)
theorem wpIn_region_headIn (k g : Nat) {id : Nat} {a : Act} {w : World} (hg : k + g = ops.size) (hB : aheadB .any ops k k (Array.replicate ops.size false) = true) (hm : P.follows .mixedOrders = true) (hS : S w.drew)
    (h : S w.drew → heldTo F n P .any ops (onlyN (Q .normal)) S (fun listed a w => wpAnyIn F n P .any ops (onlyN (Q .normal)) g listed a w) k (Array.replicate ops.size false) a w.drew) : (Code.region id ops true).wpIn F n P Q a w := by
  refine wpIn_mono (wpIn_region_any (Q := onlyN (Q .normal)) hm ?_) ?_
  · have := anyIn_of_to (k := k) (g := g) (fun _ _ _ h => h) _ _ _ _ hB (h hS)
    rw [hg] at this
    exact this
  · intro e a' w' hq
    cases e <;> first | exact hq | exact hq.elim
end
end Go.Proofs.YtpimcbhjkednpaaGreat
