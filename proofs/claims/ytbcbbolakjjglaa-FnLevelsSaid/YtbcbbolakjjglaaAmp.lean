/- AmplitudeOf of the program and of the model: contracts. -/
import Derived.Test.YtbcbbolakjjglaaLevel
namespace Go.Proofs.Ytbcbbolakjjglaa
open Go.RowKit
set_option maxRecDepth 100000

def ampOf (m : Int) (l : List PartD) : Int := if tideB m l = true then ampI l else 0
theorem ampOf_yes {m : Int} {l : List PartD} (h : tideB m l = true) : ampOf m l = ampI l := if_pos h
theorem ampOf_no {m : Int} {l : List PartD} (h : tideB m l = false) : ampOf m l = 0 := if_neg (by rw [h]; simp)

set_option maxHeartbeats 1000000 in
theorem implAmplitudeOf (m : Int) (v : Value) (l : List PartD) (w : World) (h : SlP w v l) :
    Calls Try.prog 48 #[.agg #[.int .i64 m, v]] w fun e w' => e = .returned (.int .i64 (ampOf m l)) ∧ Below w.heap.size w w' := by
  have H := Lib.hid h
  cases hv : tideB m l with
  | false =>
    obtain ⟨A, c, rfl⟩ := h.at
    have hb0 := Joins.below_alloc1 w (.cells #[.int .i64 m, .slice A l.length c] 25)
    have B0 := Lib.hid hb0
    have C := Lib.hid (implTideOk m _ l _ (H.out.below hb0))
    have E := Lib.hid (ampOf_no hv)
    rw [hv] at C
    clear h hb0 hv
    go_enter Try.func48, Try.ntmps48
    go_wp2_with fail
    refine C.out.mono ?_
    rintro e w1 ⟨rfl, hb1⟩
    have B1 := Lib.hid (B0.out.trans (hb1.mono (by simp)))
    clear hb1
    go_wp2
    go_ret
    exact ⟨ret_int E.out.symm, B1.out⟩
  | true =>
    obtain ⟨m0, m1, hlen, hall⟩ := tideB_true hv
    have HALL := Lib.hid hall
    have E := Lib.hid (ampOf_yes hv)
    have HV := Lib.hid hv
    clear hv hall
    obtain ⟨_, h⟩ := h
    rcases h with ⟨rfl, A, c, rfl⟩ | ⟨g, o, c, rfl, hp, hcap, hc⟩
    · have hb0 := Joins.below_alloc1 w (.cells #[.int .i64 m, .slice A 0 c] 25)
      have B0 := Lib.hid hb0
      have C := Lib.hid (implTideOk m _ [] _ (H.out.below hb0))
      rw [HV.out] at C
      clear hb0
      go_enter Try.func48, Try.ntmps48
      go_wp2_with fail
      refine C.out.mono ?_
      rintro e w1 ⟨rfl, hb1⟩
      obtain ⟨hc, hf⟩ := bcell hb1
      have B1 := Lib.hid (B0.out.trans (hb1.mono (by simp)))
      clear hb1
      go_wp2
      refine wp_loop_rounds 1 ?_
      rw [rounds_succ]
      go_wp2
      go_ret
      exact ⟨ret_int E.out.symm, B1.out⟩
    · have HC := Lib.hid hc
      have hb0 := Joins.below_alloc1 w (.cells #[.int .i64 m, .slice (some ⟨g, o, none⟩) l.length c] 25)
      have B0 := Lib.hid hb0
      have C := Lib.hid (implTideOk m _ l _ (H.out.below hb0))
      rw [HV.out] at C
      clear hc hb0
      go_enter Try.func48, Try.ntmps48
      go_wp2_with fail
      refine C.out.mono ?_
      rintro e w1 ⟨rfl, hb1⟩
      obtain ⟨hcc, hf⟩ := bcell hb1
      have B1 := Lib.hid (B0.out.trans (hb1.mono (by simp)))
      clear hb1
      go_wp2
      clear hcc hf
      go_loopw [3, 12] (fun s i wr => ∃ k : Nat, k ≤ l.length ∧ i = .int .i64 k ∧ s = .int .i64 (ampI (l.take k)) ∧ Hid (Below w.heap.size w wr)) (fun _ i _ => l.length - (intOf i).toNat)
      case atStart => exact ⟨0, Nat.zero_le _, rfl, rfl, B1⟩
      case round =>
        obtain ⟨k, hk, rfl, rfl, hb⟩ := hrel
        obtain ⟨s0, s1, s2, s3⟩ := sum_bounds m 0 l HALL.out k hk
        have hbs := hb.out.size
        by_cases hlt : k < l.length
        · obtain ⟨x, hx⟩ : ∃ x, l[k]? = some x := ⟨_, List.getElem?_eq_getElem hlt⟩
          obtain ⟨p0, p1, p2⟩ := SlP.cells HC.out k x hx
          have hg : g < w.heap.size := World.block_lt_of_cell? w ⟨g, o + k * 3, none⟩ p0
          have a0 := (hb.out.cell (p := ⟨g, o + k * 3, none⟩) hg).trans p0
          have a1 := (hb.out.cell (p := ⟨g, o + k * 3 + 1, none⟩) hg).trans p1
          have a2 := (hb.out.cell (p := ⟨g, o + k * 3 + 2, none⟩) hg).trans p2
          have hpx := HALL.out x (List.mem_of_getElem? hx)
          obtain ⟨y0, y1, _⟩ := partB_true hpx
          have HN := Lib.hid ((congrArg ampI (take_snoc' l k x hx)).trans (ampI_snoc (l.take k) x))
          clear p0 p1 p2 hx hpx
          go_wp2
          go_roundw
          case rel =>
            refine ⟨k + 1, by omega, by go_num, ?_, ?_⟩
            · rw [HN.out]
            · refine Lib.hid ?_
              repeat (first | exact hb.out | refine Below.setCell ?_ (by first | omega | (simp <;> omega)) _ | refine Below.alloc ?_ (by first | omega | (simp <;> omega)) _)
          case measure => simp [intOf]; omega
        · go_wp2
          go_ret
          obtain rfl : k = l.length := by omega
          rw [List.take_length]
          exact ⟨ret_int E.out.symm, hb.out⟩

end Go.Proofs.Ytbcbbolakjjglaa
