
/- The iterators partsInTime and slices.Values over windows: contracts. -/
import Derived.Test.YtmjdlkninibocaaWinCommon
namespace Go.Proofs.Ytmjdlkninibocaa
open Go.RowKit Go.Shelf
set_option maxRecDepth 100000
attribute [local go_sem] Oper.semAt_some

/-- What of a window lies in time. -/
def inTime (x : WindowD) : List WindowD := if max x.fr 0 ≤ min x.tt 2880 then [⟨max x.fr 0, min x.tt 2880⟩] else []
def timeP (l : List WindowD) : List WindowD := l.flatMap inTime
theorem timeP_next {l : List WindowD} {k : Nat} {x : WindowD} (h : l[k]? = some x) : timeP (l.take (k + 1)) = timeP (l.take k) ++ inTime x := by
  unfold timeP
  rw [take_snoc' l k x h, List.flatMap_append]
  simp
theorem inTimeQ {x : WindowD} {M m : Int} (hM : max x.fr 0 = M) (hm : min x.tt 2880 = m) : inTime x = if M ≤ m then [⟨M, m⟩] else [] := by subst hM; subst hm; rfl
theorem inTime_len (x : WindowD) : (inTime x).length ≤ 1 := by unfold inTime; split <;> simp
theorem timeP_len (l : List WindowD) : (timeP l).length ≤ l.length := by
  induction l with
  | nil => simp [timeP]
  | cons x l ih =>
    have := inTime_len x
    simp only [timeP, List.flatMap_cons, List.length_append, List.length_cons] at *
    omega
theorem timeP_time (l : List WindowD) : ∀ x ∈ timeP l, 0 ≤ x.fr ∧ x.fr ≤ x.tt ∧ x.tt ≤ 2880 := by
  intro x hx
  unfold timeP at hx
  obtain ⟨y, _, hy⟩ := List.mem_flatMap.1 hx
  unfold inTime at hy
  split at hy
  · rw [List.mem_singleton.1 hy]; simp only; omega
  · simp at hy
theorem timeP_has (l : List WindowD) (m : Int) (h0 : 0 ≤ m) (h1 : m ≤ 2880) : Has (timeP l) m ↔ Has l m := by
  induction l with
  | nil => exact Iff.rfl
  | cons x l ih =>
    have e : timeP (x :: l) = inTime x ++ timeP l := by simp [timeP]
    rw [e, has_append, has_cons, ih]
    apply or_congr_left
    unfold inTime
    split
    · rw [has_one]; simp only; omega
    · constructor
      · exact fun h => absurd h (Has.nil _)
      · intro h; omega

theorem grown_alloc2 (w : World) (o o' : Obj) : w.grownBy ((w.alloc o).alloc o') none :=
  ⟨rfl, rfl, rfl, by simp; omega, fun k hk _ => (Below.heap_alloc (w.alloc o) o' k (by simp; omega)).trans (Below.heap_alloc w o k hk)⟩

set_option maxHeartbeats 8000000 in
theorem inTime1 (A : Option Addr) (c : Nat) (l : List WindowD) (Bn : Nat) (w : World) (h : SlWindow w (.slice A l.length c) l) (hBn : Bn < w.heap.size) (hc0 : w.cell? ⟨Bn, 0, none⟩ = some (.slice A l.length c)) :
    SeqW 46 #[.pointer (some ⟨Bn, 0, none⟩)] (Kp2 36 w.heap.size) l.length (timeP l) w := by
  intro n hn lp J Jx W hW hJ hJx hY h0
  have hl := h.1
  have HS := Lib.hid h
  have hcW : W.cell? ⟨Bn, 0, none⟩ = some (.slice A l.length c) := (hW.cell (p := ⟨Bn, 0, none⟩) hBn).trans hc0
  have HJ := Lib.hid hJ
  have HY := Lib.hid hY
  have H0 := Lib.hid h0
  have HW := Lib.hid hW
  clear hJ hJx hY h0 hW hc0 h
  change CallsIn Fence.wide n Try.prog 46 #[.func (.yield lp) #[] #[], .pointer (some ⟨Bn, 0, none⟩)] W _
  refine callsIn_of_wp Try.func46 rfl trivial ?_ rfl
  simp only [Try.ntmps46, List.size_toArray, List.length_cons, List.length_nil, Nat.reduceAdd, Nat.reduceSub, Array.replicate_succ, Array.replicate_zero, List.push_toArray, List.append_toArray, List.nil_append, List.cons_append]
  gi_wp2
  gi_loopw [8] (fun i wr => ∃ (k : Nat) (acc : List WindowD), k ≤ l.length ∧ i = .int .i64 k ∧ Hid (timeP (l.take k) = acc) ∧ Hid (J acc wr) ∧ Hid (Below w.heap.size w wr) ∧ w.heap.size ≤ wr.heap.size) (fun i _ => l.length - (intOf i).toNat)
  case atStart => exact ⟨0, [], Nat.zero_le _, rfl, Lib.hid rfl, H0, HW, HW.out.size⟩
  case round =>
    obtain ⟨k, acc, hk, rfl, hE, hJs, hb, hsz⟩ := hrel
    have hgl := timeP_len (l.take k)
    rw [hE.out, List.length_take] at hgl
    by_cases hlt : k < l.length
    rotate_left
    · obtain rfl : k = l.length := by omega
      rw [List.take_length] at hE
      gi_wp2
      go_end0
      first
        | exact ⟨⟨_, rfl⟩, .inl ⟨_, hE.out.symm, hJs.out⟩⟩
        | exact ⟨⟨_, rfl⟩, .inl (by rw [hE.out]; exact hJs.out)⟩
    · obtain ⟨x, hx⟩ : ∃ x, l[k]? = some x := ⟨_, List.getElem?_eq_getElem hlt⟩
      obtain ⟨g, o, rfl, hg, p0, p1⟩ := HS.out.place hx
      have a0 := (hb.out.cell (p := ⟨g, o + k * 2, none⟩) hg).trans p0
      have a1 := (hb.out.cell (p := ⟨g, o + k * 2 + 1, none⟩) hg).trans p1
      have hgr : g < wr.heap.size := by omega
      have EF := Lib.hid (timeP_next hx)
      rw [hE.out] at EF
      clear p0 p1 hx
      obtain ⟨M, hM⟩ : ∃ M, max x.fr 0 = M := ⟨_, rfl⟩
      obtain ⟨m, hm⟩ : ∃ m, min x.tt 2880 = m := ⟨_, rfl⟩
      have EM := Lib.hid (inTimeQ hM hm)
      have eM : (if x.fr < 0 then 0 else x.fr) = M := by rw [← hM]; split <;> omega
      have em : (if 2880 < x.tt then 2880 else x.tt) = m := by rw [← hm]; split <;> omega
      clear hM hm
      have hB1 := Lib.hid ((hb.out.alloc hsz (.cells #[.int .i64 x.fr, .int .i64 x.tt] 36)).alloc (by simp; omega) (.cells #[.int .i64 M, .int .i64 m] 36))
      have J1 := Lib.hid (HJ.out _ _ ((wr.alloc (.cells #[.int .i64 x.fr, .int .i64 x.tt] 36)).alloc (.cells #[.int .i64 M, .int .i64 m] 36)) none hJs.out (grown_alloc2 _ _ _) (fun r e => by cases e))
      by_cases hin : M ≤ m
      · rw [if_pos hin] at EM
        obtain ⟨fn, tmps, assign, body, hy, hR⟩ := HY.out _ ⟨M, m⟩ _ J1.out (by omega)
        have HR := Lib.hid hR
        clear hR
        dsimp only at hy
        gi_wp2
        refine HR.out.mono ?_
        rintro e W3 (⟨rfl, hJ3, hk3⟩ | ⟨rfl, hJx3⟩)
        · have HB3 := Lib.hid (hB1.out.trans hk3.1)
          have hs3 : w.heap.size ≤ W3.heap.size := HB3.out.size
          have H3 := Lib.hid hJ3
          clear hJ3 hk3 hy
          gi_wp2
          go_roundw
          case rel => exact ⟨k + 1, _, by omega, by go_num, EF, by rw [EM.out]; exact H3, HB3, hs3⟩
          case measure => simp [intOf]; omega
        · gi_wp2
          refine bodyPost_ret (results_none rfl _ _ _) rfl ?_
          exact ⟨⟨_, rfl⟩, .inr ⟨_, trivial, hJx3⟩⟩
      · rw [if_neg hin] at EM
        have hs1 := hB1.out.size
        gi_wp2
        refine ⟨fun _ h => (by cases h), ?_⟩
        gi_wp2
        go_roundw
        case rel => exact ⟨k + 1, _, by omega, by go_num, EF, by rw [EM.out, List.append_nil]; exact J1, hB1, hs1⟩
        case measure => simp [intOf]; omega

theorem inTime_any (A : Option Addr) (n c : Nat) (w : World) :
    Calls Try.prog 28 #[.slice A n c] w fun e w' => e = .returned (.func (.func 46) #[] #[.pointer (some ⟨w.heap.size, 0, none⟩)]) ∧ w' = w.alloc (.cells #[.slice A n c] 23) := by
  go_enter Try.func28, Try.ntmps28
  go_wp2
  go_ret
  exact ⟨rfl, rfl⟩

set_option maxHeartbeats 8000000 in
theorem values1 (A : Option Addr) (c : Nat) (l : List WindowD) (Bn : Nat) (w : World) (h : SlWindow w (.slice A l.length c) l) (hBn : Bn < w.heap.size) (hc0 : w.cell? ⟨Bn, 0, none⟩ = some (.slice A l.length c)) :
    SeqW 44 #[.pointer (some ⟨Bn, 0, none⟩)] (Below w.heap.size) l.length l w := by
  intro n hn lp J Jx W hW hJ hJx hY h0
  have hl := h.1
  have HS := Lib.hid h
  have hcW : W.cell? ⟨Bn, 0, none⟩ = some (.slice A l.length c) := (hW.cell (p := ⟨Bn, 0, none⟩) hBn).trans hc0
  have HJ := Lib.hid hJ
  have HY := Lib.hid hY
  have H0 := Lib.hid h0
  have HW := Lib.hid hW
  clear hJ hJx hY h0 hW hc0 h
  change CallsIn Fence.wide n Try.prog 44 #[.func (.yield lp) #[] #[], .pointer (some ⟨Bn, 0, none⟩)] W _
  refine callsIn_of_wp Try.func44 rfl trivial ?_ rfl
  simp only [Try.ntmps44, List.size_toArray, List.length_cons, List.length_nil, Nat.reduceAdd, Nat.reduceSub, Array.replicate_succ, Array.replicate_zero, List.push_toArray, List.append_toArray, List.nil_append, List.cons_append]
  gi_wp2
  gi_loopw [7] (fun i wr => ∃ (k : Nat) (acc : List WindowD), k ≤ l.length ∧ i = .int .i64 k ∧ Hid (l.take k = acc) ∧ acc.length ≤ k ∧ Hid (J acc wr) ∧ Hid (Below w.heap.size w wr) ∧ w.heap.size ≤ wr.heap.size) (fun i _ => l.length - (intOf i).toNat)
  case atStart => exact ⟨0, [], Nat.zero_le _, rfl, Lib.hid rfl, Nat.le_refl _, H0, HW, HW.out.size⟩
  case round =>
    obtain ⟨k, acc, hk, rfl, hE, hal, hJs, hb, hsz⟩ := hrel
    by_cases hlt : k < l.length
    rotate_left
    · obtain rfl : k = l.length := by omega
      rw [List.take_length] at hE
      gi_wp2
      go_end0
      first
        | exact ⟨⟨_, rfl⟩, .inl ⟨_, hE.out.symm, hJs.out⟩⟩
        | exact ⟨⟨_, rfl⟩, .inl (by rw [hE.out]; exact hJs.out)⟩
    · obtain ⟨x, hx⟩ : ∃ x, l[k]? = some x := ⟨_, List.getElem?_eq_getElem hlt⟩
      obtain ⟨g, o, rfl, hg, p0, p1⟩ := HS.out.place hx
      have a0 := (hb.out.cell (p := ⟨g, o + k * 2, none⟩) hg).trans p0
      have a1 := (hb.out.cell (p := ⟨g, o + k * 2 + 1, none⟩) hg).trans p1
      have hgr : g < wr.heap.size := by omega
      have EF := Lib.hid (take_snoc' l k x hx)
      rw [hE.out] at EF
      clear p0 p1 hx
      have hB1 := Lib.hid (hb.out.alloc hsz (.cells #[.int .i64 x.fr, .int .i64 x.tt] 36))
      have J1 := Lib.hid (HJ.out _ _ (wr.alloc (.cells #[.int .i64 x.fr, .int .i64 x.tt] 36)) none hJs.out (World.grownBy_alloc _ _ _) (fun r e => by cases e))
      obtain ⟨fn, tmps, assign, body, hy, hR⟩ := HY.out _ x _ J1.out (by omega)
      have HR := Lib.hid hR
      clear hR
      gi_wp2
      refine HR.out.mono ?_
      rintro e W3 (⟨rfl, hJ3, hk3⟩ | ⟨rfl, hJx3⟩)
      · have HB3 := Lib.hid (hB1.out.trans hk3)
        have hs3 : w.heap.size ≤ W3.heap.size := HB3.out.size
        have H3 := Lib.hid hJ3
        clear hJ3 hk3 hy
        gi_wp2
        go_roundw
        case rel => exact ⟨k + 1, _, by omega, by go_num, EF, by simp; omega, H3, HB3, hs3⟩
        case measure => simp [intOf]; omega
      · gi_wp2
        refine bodyPost_ret (results_none rfl _ _ _) rfl ?_
        exact ⟨⟨_, rfl⟩, .inr ⟨_, trivial, hJx3⟩⟩

theorem values_any (A : Option Addr) (n c : Nat) (w : World) :
    Calls Try.prog 26 #[.slice A n c] w fun e w' => e = .returned (.func (.func 44) #[] #[.pointer (some ⟨w.heap.size, 0, none⟩)]) ∧ w' = w.alloc (.cells #[.slice A n c] 23) := by
  go_enter Try.func26, Try.ntmps26
  go_wp2
  go_ret
  exact ⟨rfl, rfl⟩
end Go.Proofs.Ytmjdlkninibocaa
