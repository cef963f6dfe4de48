
/- What ExactFreeTimes and BerthsLaw rests on, part 16: contracts and mathematics. -/
import Derived.Test.YtghjfcnboocmjaaBc12
import Derived.Test.YtghjfcnboocmjaaBc4
import Derived.Test.YtghjfcnboocmjaaBc11
import Derived.Test.YtghjfcnboocmjaaBc14
import Derived.Test.YtghjfcnboocmjaaBc10
import Derived.Deep.AppendLies
import Derived.Deep.DeepCutAuto
namespace Go.Proofs.Ytghjfcnboocmjaa
open Go.RowKit Go.Shelf
set_option maxRecDepth 100000
attribute [local go_sem] Oper.semAt_some
/-- What of a window lies in time. -/
def inTime (x : WindowD) : List WindowD := if max x.fr 0 ≤ min x.tt 2880 then [⟨max x.fr 0, min x.tt 2880⟩] else []
def timeP (l : List WindowD) : List WindowD := l.flatMap inTime
theorem timeP_next {l : List WindowD} {k : Nat} {x : WindowD} (h : l[k]? = some x) : timeP (l.take (k + 1)) = timeP (l.take k) ++ inTime x := by
  unfold timeP
  rw [take_snoc' l k x h, List.flatMap_append]
  simp
theorem inTimeQ {x : WindowD} {M m : Int} (hM : max x.fr 0 = M) (hm : min x.tt 2880 = m) : inTime x = if M ≤ m then [⟨M, m⟩] else [] := by subst hM; subst hm; rfl
theorem inTime_len (x : WindowD) : (inTime x).length ≤ 1 := by unfold inTime; split <;> simp
theorem timeP_len (l : List WindowD) : (timeP l).length ≤ l.length := by
  induction l with
  | nil => simp [timeP]
  | cons x l ih =>
    have := inTime_len x
    simp only [timeP, List.flatMap_cons, List.length_append, List.length_cons] at *
    omega
theorem timeP_time (l : List WindowD) : ∀ x ∈ timeP l, 0 ≤ x.fr ∧ x.fr ≤ x.tt ∧ x.tt ≤ 2880 := by
  intro x hx
  unfold timeP at hx
  obtain ⟨y, _, hy⟩ := List.mem_flatMap.1 hx
  unfold inTime at hy
  split at hy
  · rw [List.mem_singleton.1 hy]; simp only; omega
  · simp at hy
theorem timeP_has (l : List WindowD) (m : Int) (h0 : 0 ≤ m) (h1 : m ≤ 2880) : Has (timeP l) m ↔ Has l m := by
  induction l with
  | nil => exact Iff.rfl
  | cons x l ih =>
    have e : timeP (x :: l) = inTime x ++ timeP l := by simp [timeP]
    rw [e, has_append, has_cons, ih]
    apply or_congr_left
    unfold inTime
    split
    · rw [has_one]; simp only; omega
    · constructor
      · exact fun h => absurd h (Has.nil _)
      · intro h; omega
theorem grown_alloc2 (w : World) (o o' : Obj) : w.grownBy ((w.alloc o).alloc o') none :=
  ⟨rfl, rfl, rfl, by simp; omega, fun k hk _ => (Below.heap_alloc (w.alloc o) o' k (by simp; omega)).trans (Below.heap_alloc w o k hk)⟩
set_option maxHeartbeats 8000000 in
theorem inTime1 (A : Option Addr) (c : Nat) (l : List WindowD) (Bn : Nat) (w : World) (h : SlWindow w (.slice A l.length c) l) (hBn : Bn < w.heap.size) (hc0 : w.cell? ⟨Bn, 0, none⟩ = some (.slice A l.length c)) :
    SeqW 109 #[.pointer (some ⟨Bn, 0, none⟩)] (Kp2 86 w.heap.size) l.length (timeP l) w := by
  intro n hn lp J Jx W hW hJ hJx hY h0
  have hl := h.1
  have HS := Lib.hid h
  have hcW : W.cell? ⟨Bn, 0, none⟩ = some (.slice A l.length c) := (hW.cell (p := ⟨Bn, 0, none⟩) hBn).trans hc0
  have HJ := Lib.hid hJ
  have HY := Lib.hid hY
  have H0 := Lib.hid h0
  have HW := Lib.hid hW
  clear hJ hJx hY h0 hW hc0 h
  change CallsIn Fence.wide n Try.prog 109 #[.func (.yield lp) #[] #[], .pointer (some ⟨Bn, 0, none⟩)] W _
  refine callsIn_of_wp Try.func109 rfl trivial ?_ rfl
  simp only [Try.ntmps109, List.size_toArray, List.length_cons, List.length_nil, Nat.reduceAdd, Nat.reduceSub, Array.replicate_succ, Array.replicate_zero, List.push_toArray, List.append_toArray, List.nil_append, List.cons_append]
  gi_wp2
  gi_loopw [8] (fun i wr => ∃ (k : Nat) (acc : List WindowD), k ≤ l.length ∧ i = .int .i64 k ∧ Hid (timeP (l.take k) = acc) ∧ Hid (J acc wr) ∧ Hid (Below w.heap.size w wr) ∧ w.heap.size ≤ wr.heap.size) (fun i _ => l.length - (intOf i).toNat)
  case atStart => exact ⟨0, [], Nat.zero_le _, rfl, Lib.hid rfl, H0, HW, HW.out.size⟩
  case round =>
    obtain ⟨k, acc, hk, rfl, hE, hJs, hb, hsz⟩ := hrel
    have hgl := timeP_len (l.take k)
    rw [hE.out, List.length_take] at hgl
    by_cases hlt : k < l.length
    rotate_left
    · obtain rfl : k = l.length := by omega
      rw [List.take_length] at hE
      gi_wp2
      go_end0
      first
        | exact ⟨⟨_, rfl⟩, .inl ⟨_, hE.out.symm, hJs.out⟩⟩
        | exact ⟨⟨_, rfl⟩, .inl (by rw [hE.out]; exact hJs.out)⟩
    · obtain ⟨x, hx⟩ : ∃ x, l[k]? = some x := ⟨_, List.getElem?_eq_getElem hlt⟩
      obtain ⟨g, o, rfl, hg, p0, p1⟩ := HS.out.place hx
      have a0 := (hb.out.cell (p := ⟨g, o + k * 2, none⟩) hg).trans p0
      have a1 := (hb.out.cell (p := ⟨g, o + k * 2 + 1, none⟩) hg).trans p1
      have hgr : g < wr.heap.size := by omega
      have EF := Lib.hid (timeP_next hx)
      rw [hE.out] at EF
      clear p0 p1 hx
      obtain ⟨M, hM⟩ : ∃ M, max x.fr 0 = M := ⟨_, rfl⟩
      obtain ⟨m, hm⟩ : ∃ m, min x.tt 2880 = m := ⟨_, rfl⟩
      have EM := Lib.hid (inTimeQ hM hm)
      have eM : (if x.fr < 0 then 0 else x.fr) = M := by rw [← hM]; split <;> omega
      have em : (if 2880 < x.tt then 2880 else x.tt) = m := by rw [← hm]; split <;> omega
      clear hM hm
      have hB1 := Lib.hid ((hb.out.alloc hsz (.cells #[.int .i64 x.fr, .int .i64 x.tt] 86)).alloc (by simp; omega) (.cells #[.int .i64 M, .int .i64 m] 86))
      have J1 := Lib.hid (HJ.out _ _ ((wr.alloc (.cells #[.int .i64 x.fr, .int .i64 x.tt] 86)).alloc (.cells #[.int .i64 M, .int .i64 m] 86)) none hJs.out (grown_alloc2 _ _ _) (fun r e => by cases e))
      by_cases hin : M ≤ m
      · rw [if_pos hin] at EM
        obtain ⟨fn, tmps, assign, body, hy, hR⟩ := HY.out _ ⟨M, m⟩ _ J1.out (by omega)
        have HR := Lib.hid hR
        clear hR
        dsimp only at hy
        gi_wp2
        refine HR.out.mono ?_
        rintro e W3 (⟨rfl, hJ3, hk3⟩ | ⟨rfl, hJx3⟩)
        · have HB3 := Lib.hid (hB1.out.trans hk3.1)
          have hs3 : w.heap.size ≤ W3.heap.size := HB3.out.size
          have H3 := Lib.hid hJ3
          clear hJ3 hk3 hy
          gi_wp2
          go_roundw
          case rel => exact ⟨k + 1, _, by omega, by go_num, EF, by rw [EM.out]; exact H3, HB3, hs3⟩
          case measure => simp [intOf]; omega
        · gi_wp2
          refine bodyPost_ret (results_none rfl _ _ _) rfl ?_
          exact ⟨⟨_, rfl⟩, .inr ⟨_, trivial, hJx3⟩⟩
      · rw [if_neg hin] at EM
        have hs1 := hB1.out.size
        gi_wp2
        refine ⟨fun _ h => (by cases h), ?_⟩
        gi_wp2
        go_roundw
        case rel => exact ⟨k + 1, _, by omega, by go_num, EF, by rw [EM.out, List.append_nil]; exact J1, hB1, hs1⟩
        case measure => simp [intOf]; omega
theorem inTime_any (A : Option Addr) (n c : Nat) (w : World) :
    Calls Try.prog 93 #[.slice A n c] w fun e w' => e = .returned (.func (.func 109) #[] #[.pointer (some ⟨w.heap.size, 0, none⟩)]) ∧ w' = w.alloc (.cells #[.slice A n c] 35) := by
  go_enter Try.func93, Try.ntmps93
  go_wp2
  go_ret
  exact ⟨rfl, rfl⟩
set_option maxHeartbeats 8000000 in
theorem values1 (A : Option Addr) (c : Nat) (l : List WindowD) (Bn : Nat) (w : World) (h : SlWindow w (.slice A l.length c) l) (hBn : Bn < w.heap.size) (hc0 : w.cell? ⟨Bn, 0, none⟩ = some (.slice A l.length c)) :
    SeqW 107 #[.pointer (some ⟨Bn, 0, none⟩)] (Below w.heap.size) l.length l w := by
  intro n hn lp J Jx W hW hJ hJx hY h0
  have hl := h.1
  have HS := Lib.hid h
  have hcW : W.cell? ⟨Bn, 0, none⟩ = some (.slice A l.length c) := (hW.cell (p := ⟨Bn, 0, none⟩) hBn).trans hc0
  have HJ := Lib.hid hJ
  have HY := Lib.hid hY
  have H0 := Lib.hid h0
  have HW := Lib.hid hW
  clear hJ hJx hY h0 hW hc0 h
  change CallsIn Fence.wide n Try.prog 107 #[.func (.yield lp) #[] #[], .pointer (some ⟨Bn, 0, none⟩)] W _
  refine callsIn_of_wp Try.func107 rfl trivial ?_ rfl
  simp only [Try.ntmps107, List.size_toArray, List.length_cons, List.length_nil, Nat.reduceAdd, Nat.reduceSub, Array.replicate_succ, Array.replicate_zero, List.push_toArray, List.append_toArray, List.nil_append, List.cons_append]
  gi_wp2
  gi_loopw [7] (fun i wr => ∃ (k : Nat) (acc : List WindowD), k ≤ l.length ∧ i = .int .i64 k ∧ Hid (l.take k = acc) ∧ acc.length ≤ k ∧ Hid (J acc wr) ∧ Hid (Below w.heap.size w wr) ∧ w.heap.size ≤ wr.heap.size) (fun i _ => l.length - (intOf i).toNat)
  case atStart => exact ⟨0, [], Nat.zero_le _, rfl, Lib.hid rfl, Nat.le_refl _, H0, HW, HW.out.size⟩
  case round =>
    obtain ⟨k, acc, hk, rfl, hE, hal, hJs, hb, hsz⟩ := hrel
    by_cases hlt : k < l.length
    rotate_left
    · obtain rfl : k = l.length := by omega
      rw [List.take_length] at hE
      gi_wp2
      go_end0
      first
        | exact ⟨⟨_, rfl⟩, .inl ⟨_, hE.out.symm, hJs.out⟩⟩
        | exact ⟨⟨_, rfl⟩, .inl (by rw [hE.out]; exact hJs.out)⟩
    · obtain ⟨x, hx⟩ : ∃ x, l[k]? = some x := ⟨_, List.getElem?_eq_getElem hlt⟩
      obtain ⟨g, o, rfl, hg, p0, p1⟩ := HS.out.place hx
      have a0 := (hb.out.cell (p := ⟨g, o + k * 2, none⟩) hg).trans p0
      have a1 := (hb.out.cell (p := ⟨g, o + k * 2 + 1, none⟩) hg).trans p1
      have hgr : g < wr.heap.size := by omega
      have EF := Lib.hid (take_snoc' l k x hx)
      rw [hE.out] at EF
      clear p0 p1 hx
      have hB1 := Lib.hid (hb.out.alloc hsz (.cells #[.int .i64 x.fr, .int .i64 x.tt] 86))
      have J1 := Lib.hid (HJ.out _ _ (wr.alloc (.cells #[.int .i64 x.fr, .int .i64 x.tt] 86)) none hJs.out (World.grownBy_alloc _ _ _) (fun r e => by cases e))
      obtain ⟨fn, tmps, assign, body, hy, hR⟩ := HY.out _ x _ J1.out (by omega)
      have HR := Lib.hid hR
      clear hR
      gi_wp2
      refine HR.out.mono ?_
      rintro e W3 (⟨rfl, hJ3, hk3⟩ | ⟨rfl, hJx3⟩)
      · have HB3 := Lib.hid (hB1.out.trans hk3)
        have hs3 : w.heap.size ≤ W3.heap.size := HB3.out.size
        have H3 := Lib.hid hJ3
        clear hJ3 hk3 hy
        gi_wp2
        go_roundw
        case rel => exact ⟨k + 1, _, by omega, by go_num, EF, by simp; omega, H3, HB3, hs3⟩
        case measure => simp [intOf]; omega
      · gi_wp2
        refine bodyPost_ret (results_none rfl _ _ _) rfl ?_
        exact ⟨⟨_, rfl⟩, .inr ⟨_, trivial, hJx3⟩⟩
theorem values_any (A : Option Addr) (n c : Nat) (w : World) :
    Calls Try.prog 91 #[.slice A n c] w fun e w' => e = .returned (.func (.func 107) #[] #[.pointer (some ⟨w.heap.size, 0, none⟩)]) ∧ w' = w.alloc (.cells #[.slice A n c] 35) := by
  go_enter Try.func91, Try.ntmps91
  go_wp2
  go_ret
  exact ⟨rfl, rfl⟩
end Go.Proofs.Ytghjfcnboocmjaa
namespace Go.Proofs.Ytghjfcnboocmjaa
open Go.RowKit
set_option maxRecDepth 100000
def berthName (i : Nat) : ByteArray := ⟨#[98]⟩ ++ strOfNums [48 + (i : Int)]
def berthGood (i : Nat) (b : BerthD) : Prop := b.name = berthName i ∧ 120 ≤ b.length ∧ b.length < 320 ∧ 800 ≤ b.depth ∧ b.depth < 1300
def BerthsDrawn (l : List BerthD) : Prop := 1 ≤ l.length ∧ l.length ≤ 3 ∧ ∀ j x, l[j]? = some x → berthGood (l.length - j) x
def askGood (nf : Nat) (s : StayD) : Prop := 0 ≤ s.ship ∧ s.ship < nf ∧ s.berth = 0 ∧ 0 ≤ s.fr ∧ s.fr < 600 ∧ s.fr + 30 ≤ s.tt ∧ s.tt < s.fr + 330
theorem berth_digit (i : Nat) (h0 : 1 ≤ i) (hi : i ≤ 3) : nameB (berthName i) = true := by
  rcases (show i = 1 ∨ i = 2 ∨ i = 3 by omega) with rfl | rfl | rfl
  · show nameB (berthName 1) = true; kernel_rfl
  · show nameB (berthName 2) = true; kernel_rfl
  · show nameB (berthName 3) = true; kernel_rfl
theorem berth_apart : ∀ i j : Nat, 1 ≤ i → i ≤ 3 → 1 ≤ j → j ≤ 3 → i ≠ j → (((berthName i).toList == (berthName j).toList) = false) := by
  intro i j i0 hi j0 hj hne
  rw [ByteArray.toList_eq, ByteArray.toList_eq]
  rcases (show i = 1 ∨ i = 2 ∨ i = 3 by omega) with rfl | rfl | rfl
  · rcases (show j = 2 ∨ j = 3 by omega) with rfl | rfl
    · show ((berthName 1).data.toList == (berthName 2).data.toList) = false; kernel_rfl
    · show ((berthName 1).data.toList == (berthName 3).data.toList) = false; kernel_rfl
  · rcases (show j = 1 ∨ j = 3 by omega) with rfl | rfl
    · show ((berthName 2).data.toList == (berthName 1).data.toList) = false; kernel_rfl
    · show ((berthName 2).data.toList == (berthName 3).data.toList) = false; kernel_rfl
  · rcases (show j = 1 ∨ j = 2 by omega) with rfl | rfl
    · show ((berthName 3).data.toList == (berthName 1).data.toList) = false; kernel_rfl
    · show ((berthName 3).data.toList == (berthName 2).data.toList) = false; kernel_rfl
theorem drawn_berths {l : List BerthD} (h : BerthsDrawn l) : berthsB l = true := by
  obtain ⟨h1, h3, h⟩ := h
  refine berthsB_yes (by omega) ?_
  have : ∀ k, k ≤ l.length → RunTo pBerth l k := by
    intro k
    induction k with
    | zero => intro _; exact RunTo.zero _ _
    | succ k ih =>
      intro hk
      obtain ⟨x, hx⟩ : ∃ x, l[k]? = some x := ⟨_, List.getElem?_eq_getElem (by omega)⟩
      obtain ⟨g1, g2, g3, g4, g5⟩ := h k x hx
      refine (ih (by omega)).next hx ?_
      unfold pBerth berthB
      rw [g1, berth_digit _ (by omega) (by omega), inB_mk (by omega) (by omega), inB_mk (by omega) (by omega)]
      have : (l.take k).any (sameName x) = false := by
        rw [List.any_eq_false]
        intro y hy
        rw [List.mem_take_iff_getElem] at hy
        obtain ⟨j, hj, rfl⟩ := hy
        have hy := (h j l[j] (List.getElem?_eq_getElem (by omega))).1
        unfold sameName
        rw [hy, g1, berth_apart _ _ (by omega) (by omega) (by omega) (by omega) (by omega)]
        simp
      rw [this]
      rfl
  exact this l.length (Nat.le_refl _)
theorem drawn_berths_wf {l : List BerthD} (h : BerthsDrawn l) : ∀ x ∈ l, BerthD.wf x := by
  intro x hx
  obtain ⟨j, hj⟩ := List.getElem?_of_mem hx
  obtain ⟨g1, g2, g3, g4, g5⟩ := h.2.2 j x hj
  have hz : (berthName (l.length - j)).size = 2 := by unfold berthName; rw [ByteArray.size_append, strOfNums_size]; rfl
  refine ⟨by rw [g1, hz]; unfold maxLen; omega, ?_, ?_⟩ <;> exact WalkArith.wf_i64 (by omega)
/-- What l12Berths leaves. -/
def DrawsBerths (p : Nat) (w : World) (e : Ending) (w' : World) : Prop := ∃ (v : Value) (l : List BerthD), e = .returned v ∧ BerthsDrawn l ∧ DrawsL 3 BerthD.cells 41 w p v l w'
set_option maxHeartbeats 4000000 in
theorem l12Berths_any (p : Nat) (w : World) (hcur : Cursor w p) : Calls Try.prog 48 #[.pointer (some ⟨p, 0, none⟩)] w (DrawsBerths p w) := by
  obtain ⟨i0, hi, hz0, hz1, hz2⟩ := info_parts info_berth
  have HI := Lib.hid (And.intro hi (And.intro hz0 (And.intro hz1 hz2)))
  have ST0 := Lib.hid (DrawsL.made (k := 3) (cs := BerthD.cells) (t := 41) berthLen hcur)
  have hp := hcur.lt
  clear hi hz0 hz1 hz2 hcur
  go_enter Try.func48, Try.ntmps48
  go_wp2_with fail
  refine (l01Below_any p 3 _ (by omega) (by omega) ST0.out.cur).mono ?_
  rintro e w1 ⟨n, rfl, n0, n1, hc, hg⟩
  have ST1 := Lib.hid (ST0.out.step hg hc)
  obtain ⟨N, hN⟩ : ∃ N : Nat, 1 + n = (N : Int) := ⟨(1 + n).toNat, by omega⟩
  have hN1 : 1 ≤ N := by omega
  have hN3 : N ≤ 3 := by omega
  have wN : IntKind.i64.wrap (1 + n) = (N : Int) := by rw [IntKind.wrap_i64]; omega
  clear hc hg ST0 n0 n1 hN
  go_wp2
  go_loopw [3, 4] (fun q i wr => ∃ (r : Nat) (l : List BerthD), l.length + r = N ∧ i = .int .i64 (r : Int) ∧ Hid (∀ j x, l[j]? = some x → berthGood (N - j) x) ∧ Hid (DrawsL 3 BerthD.cells 41 w p q l wr)) (fun _ i _ => (intOf i).toNat)
  case atStart => exact ⟨N, [], by simp, rfl, Lib.hid (fun j x hx => by simp at hx), ST1⟩
  case round =>
    obtain ⟨r, l, hlr, rfl, hG, hD⟩ := hrel
    obtain ⟨A, c, rfl⟩ := hD.out.form
    by_cases hr : 0 < r
    rotate_left
    · obtain rfl : r = 0 := by omega
      have HL := Lib.hid hlr
      clear hlr
      go_wp2
      go_ret
      exact ⟨_, l, rfl, ⟨by have := HL.out; omega, by have := HL.out; omega, fun j x hx => by have := HL.out; rw [show l.length = N by omega]; exact hG.out j x hx⟩, hD.out⟩
    have hri : (0 : Int) < (r : Int) := by omega
    have HLR := Lib.hid hlr
    have hr3 : r ≤ 3 := by omega
    obtain ⟨m, hm⟩ : ∃ m, l.length = m := ⟨_, rfl⟩
    have HM := Lib.hid hm
    rw [hm] at hD hlr ⊢
    clear hm
    go_wp2_with fail
    refine (specFormat1 (r : Int) _ (by omega) (by omega)).mono ?_
    rintro e w2 ⟨rfl, hb2⟩
    have D2 := Lib.hid (hD.out.below hb2)
    have hs1 := strOfNums_size [48 + (r : Int)]
    simp only [List.length_cons, List.length_nil] at hs1
    clear hb2
    go_wp2_with fail
    refine (l01Below_any p 200 _ (by omega) (by omega) D2.out.cur).mono ?_
    rintro e w3 ⟨x, rfl, x0, x1, hc, hg⟩
    have D3 := Lib.hid (D2.out.step hg hc)
    have wx : IntKind.i64.wrap (120 + x) = 120 + x := by rw [IntKind.wrap_i64]; omega
    clear hc hg
    go_wp2_with fail
    refine (l01Below_any p 500 _ (by omega) (by omega) D3.out.cur).mono ?_
    rintro e w4 ⟨y, rfl, y0, y1, hc, hg⟩
    have D4 := Lib.hid (D3.out.step hg hc)
    have wy : IntKind.i64.wrap (800 + y) = 800 + y := by rw [IntKind.wrap_i64]; omega
    obtain ⟨nm, hnm⟩ : ∃ s, berthName r = s := ⟨_, rfl⟩
    have en : (⟨#[98]⟩ : ByteArray) ++ strOfNums [48 + (r : Int)] = nm := hnm
    obtain ⟨d, hd⟩ : ∃ d : BerthD, d = ⟨nm, 120 + x, 800 + y⟩ := ⟨_, rfl⟩
    have HGD := Lib.hid (show berthGood r d by rw [hd]; exact ⟨hnm.symm, by show 120 ≤ 120 + x; omega, by show 120 + x < 320; omega, by show 800 ≤ 800 + y; omega, by show 800 + y < 1300; omega⟩)
    have hdc : d.cells = [.string nm, .int .i64 (120 + x), .int .i64 (800 + y)] := by rw [hd]
    have HDC := Lib.hid hdc
    have AL := Lib.hid (D4.out.below (Joins.below_alloc1 w4 (.cells #[.string nm, .int .i64 (120 + x), .int .i64 (800 + y)] 41)))
    have HN := Lib.hid (World.news_of_block (heap_alloc_new w4 (.cells #[.string nm, .int .i64 (120 + x), .int .i64 (800 + y)] 41)))
    have hsz : w.heap.size ≤ w4.heap.size + 1 := by have := D4.out.size; omega
    have hi := HI.out
    have OWN := Lib.hid (show World.ownsRow _ w.heap.size 41 3 (.slice A m c) m (l.flatMap BerthD.cells) from by have h := AL.out.own; unfold OwnOf at h; rw [HM.out] at h; exact h)
    clear hc hg hnm hd hdc hlr D2 D3 D4
    go_wp2_with (at_builtin; refine wpList_append_lies _ rfl _ _ _ rfl w.heap.size 41 i0 _ 3 32 Try.underlying23 hi.1 hi.2.1 hi.2.2.1 hi.2.2.2 rfl (by omega) (.slice A m c) m (l.flatMap BerthD.cells) rfl OWN.out ⟨w4.heap.size, 0, none⟩ 1 1 [.string nm, .int .i64 (120 + x), .int .i64 (800 + y)] (by first | rfl | simp) rfl HN.out (by simp [Value.oneCell']) (by omega) (by unfold maxLen; have := HLR.out; have := HM.out; omega) (by have := HLR.out; have := HM.out; omega) (by first | omega | (simp; omega)) _ rfl ?_; intro g4 cap4 w5 hown4 hgrow4 hor4 hlt4; have GX := Lib.hid (AL.out.app (d := d) (g4 := g4) (cap4 := cap4) (by rw [HM.out, HDC.out]; exact hown4) hgrow4); clear hown4 hgrow4 hor4 hlt4)
    rw [HM.out] at GX
    go_roundw
    case rel =>
      refine ⟨r - 1, l ++ [d], by simp; have := HLR.out; omega, by go_num, Lib.hid (fun j z hz => ?_), GX⟩
      rw [List.getElem?_append] at hz
      split at hz
      · exact hG.out j z hz
      · cases hjj : j - l.length with
        | zero => rw [hjj] at hz; simp at hz; subst hz; have e : N - j = r := by have := HLR.out; omega
                  rw [e]; exact HGD.out
        | succ q => rw [hjj] at hz; simp at hz
    case measure => simp [intOf]; omega
/-- What l12Asks leaves. -/
def DrawsAsks (nf p : Nat) (w : World) (e : Ending) (w' : World) : Prop := ∃ (v : Value) (l : List StayD), e = .returned v ∧ l.length ≤ 3 ∧ (∀ s ∈ l, askGood nf s) ∧ DrawsL 4 StayD.cells 33 w p v l w'
set_option maxHeartbeats 4000000 in
theorem l12Asks_any (p nf : Nat) (B : Option Addr) (cb : Nat) (h1 : 1 ≤ nf) (h6 : nf ≤ 6) (w : World) (hcur : Cursor w p) : Calls Try.prog 50 #[.pointer (some ⟨p, 0, none⟩), .slice B nf cb] w (DrawsAsks nf p w) := by
  obtain ⟨i0, hi, hz0, hz1, hz2⟩ := info_parts info_stay
  have HI := Lib.hid (And.intro hi (And.intro hz0 (And.intro hz1 hz2)))
  have ST0 := Lib.hid (DrawsL.made (k := 4) (cs := StayD.cells) (t := 33) stayLen hcur)
  have hp := hcur.lt
  clear hi hz0 hz1 hz2 hcur
  go_enter Try.func50, Try.ntmps50
  go_wp2_with fail
  refine (l01Below_any p 4 _ (by omega) (by omega) ST0.out.cur).mono ?_
  rintro e w1 ⟨n, rfl, n0, n1, hc, hg⟩
  have ST1 := Lib.hid (ST0.out.step hg hc)
  clear hc hg ST0
  go_wp2
  go_loopw [5, 6] (fun q i wr => ∃ (r : Nat) (l : List StayD), l.length + r ≤ 3 ∧ i = .int .i64 (r : Int) ∧ Hid (∀ s ∈ l, askGood nf s) ∧ Hid (DrawsL 4 StayD.cells 33 w p q l wr)) (fun _ i _ => (intOf i).toNat)
  case atStart => exact ⟨n.toNat, [], by simp; omega, by congr 1; omega, Lib.hid (fun s hs => by simp at hs), ST1⟩
  case round =>
    obtain ⟨r, l, hlr, rfl, hG, hD⟩ := hrel
    obtain ⟨A, c, rfl⟩ := hD.out.form
    by_cases hr : 0 < r
    rotate_left
    · obtain rfl : r = 0 := by omega
      have HL := Lib.hid hlr
      clear hlr
      go_wp2
      go_ret
      exact ⟨_, l, rfl, by have := HL.out; omega, hG.out, hD.out⟩
    have hri : (0 : Int) < (r : Int) := by omega
    have HLR := Lib.hid hlr
    have hr3 : r ≤ 3 := by omega
    obtain ⟨m, hm⟩ : ∃ m, l.length = m := ⟨_, rfl⟩
    have HM := Lib.hid hm
    rw [hm] at hD hlr ⊢
    clear hm
    go_wp2_with fail
    refine (l01Below_any p 600 _ (by omega) (by omega) hD.out.cur).mono ?_
    rintro e w2 ⟨a, rfl, a0, a1, hc, hg⟩
    have D2 := Lib.hid (hD.out.step hg hc)
    clear hc hg
    go_wp2_with fail
    refine (l01Below_any p (nf : Int) _ (by omega) (by omega) D2.out.cur).mono ?_
    rintro e w3 ⟨x, rfl, x0, x1, hc, hg⟩
    have D3 := Lib.hid (D2.out.step hg hc)
    have wa : IntKind.i64.wrap (a + 30) = a + 30 := by rw [IntKind.wrap_i64]; omega
    clear hc hg
    go_wp2_with fail
    refine (l01Below_any p 300 _ (by omega) (by omega) D3.out.cur).mono ?_
    rintro e w4 ⟨y, rfl, y0, y1, hc, hg⟩
    have D4 := Lib.hid (D3.out.step hg hc)
    have wy : IntKind.i64.wrap (a + 30 + y) = a + 30 + y := by rw [IntKind.wrap_i64]; omega
    obtain ⟨d, hd⟩ : ∃ d : StayD, d = ⟨x, 0, a, a + 30 + y⟩ := ⟨_, rfl⟩
    have HGD := Lib.hid (show askGood nf d by rw [hd]; exact ⟨by show 0 ≤ x; omega, by show x < nf; omega, rfl, by show 0 ≤ a; omega, by show a < 600; omega, by show a + 30 ≤ a + 30 + y; omega, by show a + 30 + y < a + 330; omega⟩)
    have hdc : d.cells = [.int .i64 x, .int .i64 0, .int .i64 a, .int .i64 (a + 30 + y)] := by rw [hd]
    have HDC := Lib.hid hdc
    have AL := Lib.hid (D4.out.below (Joins.below_alloc1 w4 (.cells #[.int .i64 x, .int .i64 0, .int .i64 a, .int .i64 (a + 30 + y)] 33)))
    have HN := Lib.hid (World.news_of_block (heap_alloc_new w4 (.cells #[.int .i64 x, .int .i64 0, .int .i64 a, .int .i64 (a + 30 + y)] 33)))
    have hsz : w.heap.size ≤ w4.heap.size + 1 := by have := D4.out.size; omega
    have hi := HI.out
    have OWN := Lib.hid (show World.ownsRow _ w.heap.size 33 4 (.slice A m c) m (l.flatMap StayD.cells) from by have h := AL.out.own; unfold OwnOf at h; rw [HM.out] at h; exact h)
    clear hc hg hd hdc hlr D2 D3 D4
    go_wp2_with (at_builtin; refine wpList_append_lies _ rfl _ _ _ rfl w.heap.size 33 i0 _ 4 32 Try.underlying25 hi.1 hi.2.1 hi.2.2.1 hi.2.2.2 rfl (by omega) (.slice A m c) m (l.flatMap StayD.cells) rfl OWN.out ⟨w4.heap.size, 0, none⟩ 1 1 [.int .i64 x, .int .i64 0, .int .i64 a, .int .i64 (a + 30 + y)] (by first | rfl | simp) rfl HN.out (by simp [Value.oneCell']) (by omega) (by unfold maxLen; have := HLR.out; have := HM.out; omega) (by have := HLR.out; have := HM.out; omega) (by first | omega | (simp; omega)) _ rfl ?_; intro g4 cap4 w5 hown4 hgrow4 hor4 hlt4; have GX := Lib.hid (AL.out.app (d := d) (g4 := g4) (cap4 := cap4) (by rw [HM.out, HDC.out]; exact hown4) hgrow4); clear hown4 hgrow4 hor4 hlt4)
    rw [HM.out] at GX
    go_roundw
    case rel =>
      refine ⟨r - 1, l ++ [d], by simp; have := HLR.out; omega, by go_num, Lib.hid (fun s hs => ?_), GX⟩
      rcases List.mem_append.1 hs with hs | hs
      · exact hG.out s hs
      · simp at hs
        subst hs
        exact HGD.out
    case measure => simp [intOf]; omega
/-- What MakeAsks leaves. -/
def MadeAsks (w : World) (e : Ending) (w' : World) : Prop := ∃ (vb : Value) (bs : List BerthD) (vf : Value) (fl : List ShipD) (va : Value) (asks : List StayD), e = .returned (.tuple #[vb, vf, va]) ∧ BerthsDrawn bs ∧ FleetDrawn fl ∧ 1 ≤ fl.length ∧ fl.length ≤ 3 ∧ asks.length ≤ 3 ∧ (∀ s ∈ asks, askGood fl.length s) ∧ OwnBerth w' w.heap.size vb bs ∧ OwnShip w' w.heap.size vf fl ∧ OwnStay w' w.heap.size va asks ∧ Below w.heap.size w w'
set_option maxHeartbeats 4000000 in
theorem makeAsks_any (A : Option Addr) (n c : Nat) (w : World) (hcode : CodeAt w A n) : Calls Try.prog 11 #[.slice A n c] w (MadeAsks w) := by
  have CN := Lib.hid (l01New_any A n c w hcode)
  clear hcode
  go_enter Try.func11, Try.ntmps11
  go_wp2_with fail
  refine CN.out.mono ?_
  rintro e w1 ⟨p, rfl, hp, hcur, hb1⟩
  have B1 := Lib.hid hb1
  have C1 := Lib.hid hcur
  clear hb1 hcur CN
  go_wp2_with fail
  refine (l12Berths_any p w1 C1.out).mono ?_
  rintro e w2 ⟨vb, bs, rfl, hbd, hD2⟩
  have HBD := Lib.hid hbd
  have B2 := Lib.hid (B1.out.grown hD2.gr B1.out.size (fun j e => by have := Option.some.inj e; omega))
  have OB2 := Lib.hid (show OwnBerth w2 w1.heap.size vb bs from hD2.own)
  have C2 := Lib.hid hD2.cur
  have hp1 := hD2.hp
  obtain ⟨Ab, cb, rfl⟩ := hD2.form
  obtain ⟨nb, hnb⟩ : ∃ n, bs.length = n := ⟨_, rfl⟩
  rw [hnb] at OB2 ⊢
  clear hbd hD2 hnb
  have FL := Lib.hid (show Calls Try.prog 49 #[.pointer (some ⟨p, 0, none⟩), .int .i64 3] w2 (DrawsFleet p w2) from l06Fleet_any p w2 C2.out)
  go_wp2_with fail
  refine FL.out.mono ?_
  rintro e w3 ⟨Af, cf, fl, rfl, hf1, hf3, hF1, hF2, hF3, hF4, hF5⟩
  have HFD := Lib.hid (show FleetDrawn fl from ⟨by omega, hF4⟩)
  have B3 := Lib.hid (B2.out.grown hF2 B2.out.size (fun j e => by have := Option.some.inj e; omega))
  have OB3 := Lib.hid (show OwnBerth w3 w1.heap.size (.slice Ab nb cb) bs from own_kept OB2.out hF2 (fun b hv e => by have := (own_ge OB2.out hv).1; have := Option.some.inj e; omega))
  have OF3 := Lib.hid hF3
  have C3 := Lib.hid hF1
  obtain ⟨nf, hnf⟩ : ∃ n, fl.length = n := ⟨_, rfl⟩
  have HNF := Lib.hid hnf
  rw [hnf] at OF3 hf1 hf3 ⊢
  clear hF1 hF2 hF3 hF4 hnf FL
  go_wp2_with fail
  refine (l12Asks_any p nf Af cf hf1 (by omega) w3 C3.out).mono ?_
  rintro e w4 ⟨va, asks, rfl, ha3, hag, hD4⟩
  have hz3 := B3.out.size
  have hz2 := B2.out.size
  have hz1 := B1.out.size
  have B4 := Lib.hid (B3.out.grown hD4.gr B3.out.size (fun j e => by have := Option.some.inj e; omega))
  have OB4 := Lib.hid (show OwnBerth w4 w.heap.size (.slice Ab nb cb) bs from own_lo (own_kept OB3.out hD4.gr (fun b hv e => by have := (own_ge OB3.out hv).1; have := Option.some.inj e; omega)) hz1)
  have OF4 := Lib.hid (show OwnShip w4 w.heap.size (.slice Af nf cf) fl from own_lo (own_kept OF3.out hD4.gr (fun b hv e => by have := (own_ge OF3.out hv).1; have := Option.some.inj e; omega)) hz2)
  have OA4 := Lib.hid (show OwnStay w4 w.heap.size va asks from own_lo hD4.own hz3)
  have HAG := Lib.hid hag
  obtain ⟨Aa, ca, rfl⟩ := hD4.form
  obtain ⟨na, hna⟩ : ∃ n, asks.length = n := ⟨_, rfl⟩
  have HNA := Lib.hid hna
  rw [hna] at OA4 ha3 ⊢
  clear hag hD4 hna
  go_wp2
  refine bodyPost_ret (v := .tuple #[.slice Ab nb cb, .slice Af nf cf, .slice Aa na ca]) (by simp [results, Try.results11, go_sem]) rfl ⟨_, bs, _, fl, _, asks, rfl, HBD.out, HFD.out, by rw [HNF.out]; exact hf1, by rw [HNF.out]; exact hf3, by rw [HNA.out]; exact ha3, by rw [HNF.out]; exact HAG.out, OB4.out, OF4.out, OA4.out, B4.out⟩
end Go.Proofs.Ytghjfcnboocmjaa
