
/- impl.pointsOk and impl.PointNamed over the map of names: contracts. -/
import Derived.Test.YtpglaffmmddcdaaFirsts
import Derived.Test.YtpglaffmmddcdaaNamesImpl
namespace Go.Proofs.Ytpglaffmmddcdaa
open Go.RowKit Go.Maps Go.WideMaps
set_option maxRecDepth 100000

set_option maxHeartbeats 4000000 in
theorem implPointsOk (v : Value) (l : List PointD) (w : World) (h : SlPoint w v l) (hwf : ∀ x ∈ l, PointD.wf x) :
    Calls Try.prog 77 #[v] w fun e w' => e = .returned (.bool (ptsB l)) ∧ Below w.heap.size w w' := by
  have HS := Lib.hid h
  have HWF := Lib.hid hwf
  have hl := h.1
  obtain ⟨A, c, rfl⟩ := h.at
  clear h hwf
  by_cases h8 : 8 < l.length
  · have E := Lib.hid (ptsB_long h8)
    go_enter Try.func77, Try.ntmps77
    go_wp2
    go_ret
    exact ⟨ret_bool E.out.symm, Below.refl _ _⟩
  · have H8 := Lib.hid (show l.length ≤ 8 by omega)
    go_enter Try.func77, Try.ntmps77
    go_wp2_with fail
    refine (implFirsts _ l _ HS.out HWF.out).mono ?_
    rintro e w1 ⟨b, rfl, hb, ⟨n, hn, hm⟩, hb1⟩
    have HB1 := Lib.hid hb1
    have hbl := hm.lt
    clear hb1
    go_wp2_with (first
      | (at_range; refine wpList_range_own _ rfl _ 125 rfl 9 3 law_string Try.underlying125 _ b n _ rfl hm ?_; intro w0 hrg0 hg0 hs0)
      | fail)
    go_frame
    have HB0 := Lib.hid (show Below w.heap.size w w0 from HB1.out.grown hg0 HB1.out.size (fun k e => by cases e))
    obtain ⟨r, hr⟩ : ∃ r, w1.heap.size = r := ⟨_, rfl⟩
    rw [hr] at hrg0 ⊢
    have hrw : w.heap.size ≤ r := by have := HB1.out.size; omega
    clear hm hg0 hs0 hr HB1
    go_loopw [4] (fun _ wr => ∃ (left : Lit → Bool) (cnt : Nat), wr.ranges Try.prog 9 (plainElem (H := Unit) Try.prog 3) b r n (nameMap 0 l) left cnt ∧ Hid (Named l left) ∧ Hid (Below w.heap.size w wr)) (fun _ wr => wr.rangeLeft b r)
    case atStart => exact ⟨_, _, hrg0, Lib.hid (Named.start l), HB0⟩
    case round =>
      clear hrg0 HB0
      obtain ⟨left, cnt, hrg, hN, hBr⟩ := hrel
      go_wp2_with (first
        | (at_next; refine wpList_next_ranges _ rfl _ rfl 9 law_string (plainElem Try.prog 3) Value.string (Value.int .i64) (fun key kl hkey => by obtain ⟨s, rfl, _⟩ := string_of_keyOf Try.underlying9 hkey; exact ⟨s, rfl⟩) (fun v y hv => by obtain ⟨c, rfl, _⟩ := plainElem_int_inv Try.underlying3 hv; exact ⟨c, rfl⟩) b r n _ _ _ rfl hrg ?_ ?_)
        | fail)
      · intro _ hl0
        have E := Lib.hid (ptsB_end H8.out (hN.out.stop hl0))
        have hm := hrg.owns
        clear hl0 hN
        have E2 := Lib.hid (show ((((size (nameMap 0 l) : Nat) : Int) == (l.length : Int)) : Bool) = ptsB l by
          rw [E.out, Bool.eq_iff_iff, decide_eq_true_iff, beq_iff_eq]; omega)
        go_wp2_with (first
          | (at_len; refine wpList_len_own _ rfl _ 125 rfl 9 3 Try.underlying125 _ b n _ rfl hm ?_)
          | fail)
        go_ret
        exact ⟨ret_bool E2.out, hBr.out⟩
      · intro s c kl y _ w' cnt' hkey hlk hv hat hrg1 hlt hg1 hs1 hen
        obtain ⟨s', es, rfl, hsz⟩ := string_of_keyOf Try.underlying9 hkey
        cases es
        have HB2 := Lib.hid (show Below w.heap.size w w' from hBr.out.grown hg1 hBr.out.size (fun k e => by cases e; exact hrw))
        have HLK := Lib.hid (show has (nameMap 0 l) (keyL s) = true from has_true_of_atKey hat)
        obtain ⟨bb, hbb⟩ : ∃ bb, nameB s = bb := ⟨_, rfl⟩
        have HBB := Lib.hid hbb
        have hml := hrg.left_eq
        have HSZ := Lib.hid hsz
        clear hkey hlk hv hat hs1 hg1 hsz hbb hBr hrg
        go_wp2_with fail
        refine (implIsName s _ HSZ.out).mono ?_
        rw [HBB.out]
        rintro e w2 ⟨rfl, hb2⟩
        have HB3 := Lib.hid (HB2.out.trans (hb2.mono HB2.out.size))
        have hrg2 := hrg1.kept (grown_of_below hb2 none) (by simp) (by simp)
        clear hb2 HB2 hen hrg1
        cases bb with
        | true =>
          have HN2 := Lib.hid (hN.out.next HBB.out)
          go_wp2
          go_roundw
          case rel => exact ⟨_, cnt', hrg2, HN2, HB3⟩
          case measure => rw [hrg2.left_eq, hml]; exact hlt
        | false =>
          have E := Lib.hid (ptsB_no HLK.out HBB.out)
          go_wp2
          go_ret
          exact ⟨ret_bool E.out.symm, HB3.out⟩

end Go.Proofs.Ytpglaffmmddcdaa
