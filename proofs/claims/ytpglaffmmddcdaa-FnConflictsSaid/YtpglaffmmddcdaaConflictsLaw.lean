
/- FnConflicts holds for every code: conflicts are symmetric, and a stricter regime has at least the same ones. No condition. -/
import Derived.Test.YtpglaffmmddcdaaRows
import Derived.Test.YtpglaffmmddcdaaCodeArg
import Derived.Test.YtpglaffmmddcdaaKit
import Derived.Test.YtpglaffmmddcdaaDrawTraf
import Derived.Test.YtpglaffmmddcdaaFirstImpl
import Derived.Deep.RegionHeld3
import Derived.Deep.DeepCutAuto
namespace Go.Proofs.Ytpglaffmmddcdaa
set_option maxRecDepth 100000

theorem first_before {d : ChartD} {r : RegimeD} {l : List PassageD} {a b : Nat} {p q : PassageD} (hab : a < b) (hp : l[a]? = some p) (hq : l[b]? = some q) (hc : confI d r p q ≠ 0) : fcN (firstC d r l) ≠ 0 ∧ fcK (firstC d r l) ≤ (b : Int) := by
  have hb : b < l.length := (List.getElem?_eq_some_iff.1 hq).1
  have e := pairI_at (d := d) (r := r) hp hq
  cases h : firstC d r l with
  | none => exact absurd (e.symm.trans (allF_none h a b hab hb)) hc
  | some x =>
    obtain ⟨-, -, h1, h2, h3⟩ := allF_facts h
    refine ⟨?_, ?_⟩
    · show x.2.2 ≠ 0
      rw [h1]; exact h2
    · show (x.2.1 : Int) ≤ b
      by_cases hk : x.2.1 ≤ b
      · omega
      · exact absurd (e.symm.trans (h3 a b hab (by omega))) hc
theorem first_bnd (d : ChartD) (r : RegimeD) (l : List PassageD) : 0 ≤ fcN (firstC d r l) ∧ fcN (firstC d r l) ≤ 4 := by
  cases h : firstC d r l with
  | none => exact ⟨Int.le_refl 0, by show (0 : Int) ≤ 4; omega⟩
  | some x =>
    obtain ⟨-, -, h1, -, -⟩ := allF_facts h
    show 0 ≤ x.2.2 ∧ x.2.2 ≤ 4
    rw [h1]
    unfold pairI
    split
    · exact confI_bnd _ _ _ _
    · omega
theorem first_ids (d : ChartD) (r : RegimeD) (l : List PassageD) : (fcI (firstC d r l) == -1) = (fcN (firstC d r l) == 0) ∧ (fcK (firstC d r l) == -1) = (fcN (firstC d r l) == 0) := by
  cases h : firstC d r l with
  | none => exact ⟨rfl, rfl⟩
  | some x =>
    obtain ⟨-, -, h1, h2, -⟩ := allF_facts h
    have e : (fcN (some x) == 0) = false := by show (x.2.2 == 0) = false; rw [h1]; simpa using h2
    rw [e]
    refine ⟨?_, ?_⟩
    · show (((x.1 : Nat) : Int) == -1) = false
      simp
    · show (((x.2.1 : Nat) : Int) == -1) = false
      simp
theorem confName_some {n : Int} (h0 : 0 ≤ n) (h4 : n ≤ 4) : (confName n).toList ≠ [] := by
  obtain rfl | rfl | rfl | rfl | rfl : n = 0 ∨ n = 1 ∨ n = 2 ∨ n = 3 ∨ n = 4 := by omega
  all_goals decide +kernel
/-- A list from k on, in the same cells. -/
theorem SlOf.dropR {α : Type} {n : Nat} {cs : α → List Value} {w : World} {g o c : Nat} {l : List α} (h : SlOf n cs w (.slice (some ⟨g, o, none⟩) l.length c) l) {k : Nat} (hk : k < l.length) : SlOf n cs w (.slice (some ⟨g, o + k * n, none⟩) (l.length - k) (c - k)) (l.drop k) := by
  obtain ⟨hl, h⟩ := h
  refine ⟨by rw [List.length_drop]; omega, ?_⟩
  right
  rcases h with ⟨he, _⟩ | ⟨g', o', c', e, hp, hc, hx⟩
  · rw [he] at hk; simp at hk
  · injection e with e1 e2 e3
    injection e1 with e4
    injection e4 with e5 e6 _
    subst e3 e5 e6
    refine ⟨g, o + k * n, c - k, by rw [List.length_drop], by rw [List.length_drop]; omega, by rw [List.length_drop]; omega, fun i x hi j u hu => ?_⟩
    rw [List.getElem?_drop] at hi
    have := hx (k + i) x hi j u hu
    rw [Nat.add_mul] at this
    rw [show o + k * n + i * n + j = o + (k * n + i * n) + j by omega]
    exact this
theorem SlOf.oneR {α : Type} {n : Nat} {cs : α → List Value} {w : World} {g o c : Nat} {l : List α} (h : SlOf n cs w (.slice (some ⟨g, o, none⟩) l.length c) l) {k : Nat} {p : α} (hp : l[k]? = some p) : SlOf n cs w (.slice (some ⟨g, o + k * n, none⟩) 1 (c - k)) [p] := by
  have hk : k < l.length := (List.getElem?_eq_some_iff.1 hp).1
  obtain ⟨hl, h⟩ := h
  refine ⟨by simp, ?_⟩
  right
  rcases h with ⟨he, _⟩ | ⟨g', o', c', e, hp', hc, hx⟩
  · rw [he] at hk; simp at hk
  · injection e with e1 e2 e3
    injection e1 with e4
    injection e4 with e5 e6 _
    subst e3 e5 e6
    refine ⟨g, o + k * n, c - k, rfl, by simp, by show 1 ≤ c - k; omega, fun i x hi j u hu => ?_⟩
    cases i with
    | zero =>
      simp at hi
      subst hi
      have := hx k p hp j u hu
      rw [show o + k * n + 0 * n + j = o + k * n + j by omega]
      exact this
    | succ i => simp at hi
end Go.Proofs.Ytpglaffmmddcdaa

namespace Go.Proofs.Ytpglaffmmddcdaa.lawConflicts
open Go.ChangeShapes Go.WideShapes Go.ChangeAt Go.RowKit
set_option maxRecDepth 100000

theorem own : ownKnob Try.prog.godebug = none := by kernel_rfl
theorem laidOut : laidOutB Try.prog = true := by kernel_rfl

set_option maxHeartbeats 16000000 in
theorem law (A : Option Addr) (n c : Nat) (w : World) (hcode : n ≤ maxLen ∧ (n ≤ 1048576 → CodeAt w A n)) :
    Calls Try.prog 3 #[.slice A n c] w fun e w' => e = .returned (.bool true) ∧ Below w.heap.size w w' := by
  obtain ⟨hn, hcode⟩ := hcode
  have HC := Lib.hid hcode
  clear hcode
  unfold maxLen at hn
  by_cases hbig : 1048576 < n
  · go_enter Try.func3, Try.ntmps3
    go_wp2
    go_ret
    exact ⟨rfl, Below.refl _ _⟩
  have HC0 := Lib.hid (HC.out (by omega))
  clear HC
  go_enter Try.func3, Try.ntmps3
  go_wp2_with fail
  refine (makeTraffic_any A n c w HC0.out).mono ?_
  rintro e w1 ⟨ch, A0, c0, A1, c1, r, C, cc, l, hok, g0, g1, hwf, hl5, rfl, ho0, ho1, ho2, hb1⟩
  have hcb := chart_drawn ch hok
  have hnm := names_drawn ch
  have hlen := chart_len ch
  obtain ⟨d, hd⟩ : ∃ d, ch.chart = d := ⟨_, rfl⟩
  rw [hd] at ho0 ho1 hcb hnm hlen ⊢
  obtain ⟨hlp, hls⟩ := hlen
  have rd : RdChart w1 (.slice A0 d.points.length c0) (.slice A1 d.segs.length c1) d := ⟨own_sl pointLen ho0 (by omega), own_sl segmentLen ho1 (by omega)⟩
  have rl : SlPassage w1 (.slice C l.length cc) l := own_sl passageLen ho2 (by omega)
  have hrb : regB r = true := decide_eq_true (by omega)
  have hids := first_ids d r l
  have hbnd := first_bnd d r l
  obtain ⟨n0, hn0⟩ : ∃ n0, d.points.length = n0 := ⟨_, rfl⟩
  obtain ⟨n1, hn1⟩ : ∃ n1, d.segs.length = n1 := ⟨_, rfl⟩
  obtain ⟨L, hL⟩ : ∃ L, l.length = L := ⟨_, rfl⟩
  rw [hn0, hn1] at rd
  rw [hL] at rl hl5
  rw [hn0, hn1, hL]
  have RD1 := Lib.hid rd
  have RL1 := Lib.hid rl
  have NM := Lib.hid hnm
  have WF := Lib.hid hwf
  have HCB := Lib.hid hcb
  have HRB := Lib.hid hrb
  have HID := Lib.hid hids
  have HBN := Lib.hid hbnd
  have HL := Lib.hid hL
  have HC1 := Lib.hid (HC0.out.below hb1)
  have B1 := Lib.hid hb1
  clear rd rl hnm hwf hcb hrb hids hbnd hn0 hn1 hL hb1 HC0 ho0 ho1 ho2 hlp hls hd hok
  have hal := (Joins.below_alloc1 w1 (.cells #[.slice A0 n0 c0, .slice A1 n1 c1] 26)).trans ((Joins.below_alloc1 (w1.alloc (.cells #[.slice A0 n0 c0, .slice A1 n1 c1] 26)) (.cells #[.int .i64 r.gap, .bool r.noMeet] 28)).mono (by simp))
  have KH2 := Lib.hid ((Blk.new w1 #[.slice A0 n0 c0, .slice A1 n1 c1] 26).below (Joins.below_alloc1 (w1.alloc (.cells #[.slice A0 n0 c0, .slice A1 n1 c1] 26)) (.cells #[.int .i64 r.gap, .bool r.noMeet] 28)))
  have KR2 := Lib.hid (Blk.new (w1.alloc (.cells #[.slice A0 n0 c0, .slice A1 n1 c1] 26)) #[.int .i64 r.gap, .bool r.noMeet] 28)
  rw [World.size_alloc] at KR2
  obtain ⟨W, hW⟩ : ∃ W, W = (w1.alloc (.cells #[.slice A0 n0 c0, .slice A1 n1 c1] 26)).alloc (.cells #[.int .i64 r.gap, .bool r.noMeet] 28) := ⟨_, rfl⟩
  rw [← hW] at hal KH2 KR2
  have HW := Lib.hid hW
  clear hW
  have HC2 := Lib.hid (HC1.out.below hal)
  have RD2 := Lib.hid (RD1.out.below hal)
  have RL2 := Lib.hid (SlPassage.below RL1.out hal)
  have B2 := Lib.hid (B1.out.trans (hal.mono B1.out.size))
  clear hal B1 HC1 RD1 RL1
  go_upto_region 4 with fail
  rw [← HW.out]
  clear HW
  have hge : W.heap.size ≤ W.heap.size := Nat.le_refl _
  have KQ := Lib.hid (show W.cell? ⟨w1.heap.size + 1, 0, none⟩ = some (.int .i64 r.gap) from KR2.out.cell 0)
  have vq := KQ.out
  go_cut [6] (fun s6 wx => ∃ (gs : Nat) (z : Int), s6 = .pointer (some ⟨gs, 0, none⟩) ∧ 0 ≤ z ∧ z < 20 ∧ Hid (Blk wx gs #[.int .i64 (r.gap + z), .bool true] 28) ∧ Hid (Below W.heap.size W wx))
  case first =>
    have PB0 := Lib.hid (Below.refl W.heap.size W).drew
    refine wp_region_held_drew (S := (fun w' => w'.cell? ⟨w1.heap.size + 1, 0, none⟩ = some (.int .i64 r.gap))) (by kernel_rfl) ?_ (fun hHeld => ?_)
    · (try dsimp only); go_keep
    refine wpAnyH_take (i := 0) (v := ?_) (by simp only [List.getElem?_toArray, List.getElem?_cons_zero]; rfl) (by kernel_rfl) (by kernel_rfl) (by kernel_rfl) (by exact fun _ _ _ h => h) (Or.inl ⟨by rfl, ?_⟩) (by assumption) ?_; rotate_left; focus (intro w hSw; (try dsimp only at hSw); first | (go_simp; done) | (go_simp; with_reducible rfl))
    (try simp only [Act.put]); (try simp only [List.setIfInBounds_toArray]); (try simp only [List.set_cons_succ]); (try simp only [List.set_cons_zero])
    refine wpAnyH_take (i := 1) (v := ?_) (by simp only [List.getElem?_toArray, List.getElem?_cons_succ, List.getElem?_cons_zero]; rfl) (by kernel_rfl) (by kernel_rfl) (by kernel_rfl) (by exact fun _ _ _ h => h) (Or.inl ⟨by rfl, ?_⟩) (by assumption) ?_; rotate_left; focus (intro w hSw; (try dsimp only at hSw); first | (go_simp; done) | (go_simp; with_reducible rfl))
    (try simp only [Act.put]); (try simp only [List.setIfInBounds_toArray]); (try simp only [List.set_cons_succ]); (try simp only [List.set_cons_zero])
    refine wpAnyH_take (i := 2) (v := ?_) (by simp only [List.getElem?_toArray, List.getElem?_cons_succ, List.getElem?_cons_zero]; rfl) (by kernel_rfl) (by kernel_rfl) (by kernel_rfl) (by exact fun _ _ _ h => h) (Or.inl ⟨by rfl, ?_⟩) (by assumption) ?_; rotate_left; focus (intro w hSw; (try dsimp only at hSw); first | (go_simp; done) | (go_simp; with_reducible rfl))
    (try simp only [Act.put]); (try simp only [List.setIfInBounds_toArray]); (try simp only [List.set_cons_succ]); (try simp only [List.set_cons_zero])
    refine wpAnyH_ready (rs := [3, 7]) (by kernel_rfl) (by simp) ?_
    refine AllReadyH.cons rfl (fun K hK => ?_) (AllReadyH.cons rfl (fun K hK => ?_) (AllReadyH.nil))
    · rw [if_pos (by rfl)]
      go_simp
      go_at_call 13
      refine (makeNum_any A n c 90 _ (HC2.out.below PB0.out) (by omega)).mono ?_
      rintro e wq1 ⟨x, rfl, x0, x1, hbk⟩
      have hz2 : 0 ≤ x.tmod 20 ∧ x.tmod 20 < 20 := by rw [Int.tmod_eq_emod_of_nonneg x0]; omega
      obtain ⟨z0, z1⟩ := hz2
      have wz : IntKind.i64.wrap (x.tmod 20) = x.tmod 20 := by rw [IntKind.wrap_i64]; omega
      have ws : IntKind.i64.wrap (r.gap + x.tmod 20) = r.gap + x.tmod 20 := by rw [IntKind.wrap_i64]; omega
      have PB1 := Lib.hid (PB0.out.trans (hbk.mono PB0.out.size))
      have QS := Lib.hid (show wq1.cell? ⟨w1.heap.size + 1, 0, none⟩ = some (.int .i64 r.gap) from cell_onV KQ.out PB1.out)
      clear hbk
      go_simp
      refine hK.out _ _ QS.out (fun hHeld => ?_)
      clear hK K
      (try simp only [Act.put]); (try simp only [List.setIfInBounds_toArray]); (try simp only [List.set_cons_succ]); (try simp only [List.set_cons_zero])
      refine wpAnyH_take (i := 4) (v := ?_) (by simp only [List.getElem?_toArray, List.getElem?_cons_succ, List.getElem?_cons_zero]; rfl) (by kernel_rfl) (by kernel_rfl) (by kernel_rfl) (by exact fun _ _ _ h => h) (Or.inl ⟨by rfl, ?_⟩) (by assumption) ?_; rotate_left; focus (intro w hSw; (try dsimp only at hSw); first | (go_simp; done) | (go_simp; with_reducible rfl))
      (try simp only [Act.put]); (try simp only [List.setIfInBounds_toArray]); (try simp only [List.set_cons_succ]); (try simp only [List.set_cons_zero])
      refine wpAnyH_take (i := 5) (v := ?_) (by simp only [List.getElem?_toArray, List.getElem?_cons_succ, List.getElem?_cons_zero]; rfl) (by kernel_rfl) (by kernel_rfl) (by kernel_rfl) (by exact fun _ _ _ h => h) (Or.inl ⟨by rfl, ?_⟩) (by assumption) ?_; rotate_left; focus (intro w hSw; (try dsimp only at hSw); first | (go_simp; done) | (go_simp; with_reducible rfl))
      (try simp only [Act.put]); (try simp only [List.setIfInBounds_toArray]); (try simp only [List.set_cons_succ]); (try simp only [List.set_cons_zero])
      refine wpAnyH_take (i := 6) (v := ?_) (by simp only [List.getElem?_toArray, List.getElem?_cons_succ, List.getElem?_cons_zero]; rfl) (by kernel_rfl) (by kernel_rfl) (by kernel_rfl) (by exact fun _ _ _ h => h) (Or.inl ⟨by rfl, ?_⟩) (by assumption) ?_; rotate_left; focus (intro w hSw; (try dsimp only at hSw); first | (go_simp; done) | (go_simp; with_reducible rfl))
      (try simp only [Act.put]); (try simp only [List.setIfInBounds_toArray]); (try simp only [List.set_cons_succ]); (try simp only [List.set_cons_zero])
      refine wpAnyH_ready (rs := [7]) (by kernel_rfl) (by simp) ?_
      refine AllReadyH.cons rfl (fun K hK => ?_) (AllReadyH.nil)
      rw [if_pos (by rfl)]
      go_simp
      have KN := Blk.new wq1 #[.int .i64 0, .bool false] 28
      have hb := Joins.below_alloc1 wq1 (.cells #[.int .i64 0, .bool false] 28)
      obtain ⟨wq2, hwq⟩ : ∃ X, X = wq1.alloc (.cells #[.int .i64 0, .bool false] 28) := ⟨_, rfl⟩
      obtain ⟨gs, hgs⟩ : ∃ g, g = wq1.heap.size := ⟨_, rfl⟩
      have hgl : W.heap.size ≤ gs := by rw [hgs]; exact PB1.out.size
      rw [← hwq, ← hgs] at KN ⊢
      rw [← hwq] at hb
      have PA2 := Lib.hid KN
      have PB2 := Lib.hid (PB1.out.trans (hb.mono PB1.out.size))
      have QS := Lib.hid (show wq2.cell? ⟨w1.heap.size + 1, 0, none⟩ = some (.int .i64 r.gap) from cell_onV KQ.out PB2.out)
      clear KN hb hwq hgs
      refine hK.out _ _ QS.out (fun hHeld => ?_)
      clear hK K
      (try simp only [Act.put]); (try simp only [List.setIfInBounds_toArray]); (try simp only [List.set_cons_succ]); (try simp only [List.set_cons_zero])
      refine wpAnyH_ready (rs := [8]) (by kernel_rfl) (by simp) ?_
      refine AllReadyH.cons rfl (fun K hK => ?_) (AllReadyH.nil)
      have r0 : wq2.cell? ⟨gs, 0, none⟩ = some (.int .i64 0) := PA2.out.cell 0
      have r1 : wq2.cell? ⟨gs, 1, none⟩ = some (.bool false) := PA2.out.cell 1
      have s0 : wq2.frozen? ⟨gs, 0, none⟩ = false := PA2.out.free 0
      have s1 : wq2.frozen? ⟨gs, 1, none⟩ = false := PA2.out.free 1
      rw [if_pos (by rfl)]
      go_simp
      have KN := (PA2.out.set 0 (.int .i64 (r.gap + x.tmod 20))).set 1 (.bool true)
      simp only [List.setIfInBounds_toArray, List.set_cons_zero, List.set_cons_succ] at KN
      have hb := (PB2.out.setCell (p := ⟨gs, 0, none⟩) hgl (.int .i64 (r.gap + x.tmod 20))).setCell (p := ⟨gs, 1, none⟩) hgl (.bool true)
      obtain ⟨wq3, hwq⟩ : ∃ X, X = ((wq2.setCell ⟨gs, 0, none⟩ (.int .i64 (r.gap + x.tmod 20))).setCell ⟨gs, 1, none⟩ (.bool true)) := ⟨_, rfl⟩
      rw [← hwq] at KN hb ⊢
      have PA3 := Lib.hid KN
      have PB3 := Lib.hid hb
      have QS := Lib.hid (show wq3.cell? ⟨w1.heap.size + 1, 0, none⟩ = some (.int .i64 r.gap) from cell_onV KQ.out PB3.out)
      clear KN hb hwq r0 r1 s0 s1
      refine hK.out _ _ QS.out (fun hHeld => ?_)
      clear hK K
      (try simp only [Act.put]); (try simp only [List.setIfInBounds_toArray]); (try simp only [List.set_cons_succ]); (try simp only [List.set_cons_zero])
      refine wpAnyH_done (by kernel_rfl) ?_ _
      go_wp2_with fail
      go_meet
      exact ⟨gs, x.tmod 20, rfl, z0, z1, PA3, PB3⟩
    · rw [if_pos (by rfl)]
      go_simp
      have KN := Blk.new W #[.int .i64 0, .bool false] 28
      have hb := Joins.below_alloc1 W (.cells #[.int .i64 0, .bool false] 28)
      replace KN := KN.drew
      replace hb := hb.drew
      obtain ⟨wq1, hwq⟩ : ∃ X, X = (W.alloc (.cells #[.int .i64 0, .bool false] 28)).drew := ⟨_, rfl⟩
      obtain ⟨gs, hgs⟩ : ∃ g, g = W.heap.size := ⟨_, rfl⟩
      have hgl : W.heap.size ≤ gs := by rw [hgs]; exact Nat.le_refl _
      rw [← hwq, ← hgs] at KN ⊢
      rw [← hwq] at hb
      have PA1 := Lib.hid KN
      have PB1 := Lib.hid (hb)
      have QS := Lib.hid (show wq1.cell? ⟨w1.heap.size + 1, 0, none⟩ = some (.int .i64 r.gap) from cell_onV KQ.out PB1.out)
      clear KN hb hwq hgs
      refine hK.out _ _ QS.out (fun hHeld => ?_)
      clear hK K
      (try simp only [Act.put]); (try simp only [List.setIfInBounds_toArray]); (try simp only [List.set_cons_succ]); (try simp only [List.set_cons_zero])
      refine wpAnyH_ready (rs := [3]) (by kernel_rfl) (by simp) ?_
      refine AllReadyH.cons rfl (fun K hK => ?_) (AllReadyH.nil)
      rw [if_pos (by rfl)]
      go_simp
      go_at_call 13
      refine (makeNum_any A n c 90 _ (HC2.out.below PB1.out) (by omega)).mono ?_
      rintro e wq2 ⟨x, rfl, x0, x1, hbk⟩
      have hz2 : 0 ≤ x.tmod 20 ∧ x.tmod 20 < 20 := by rw [Int.tmod_eq_emod_of_nonneg x0]; omega
      obtain ⟨z0, z1⟩ := hz2
      have wz : IntKind.i64.wrap (x.tmod 20) = x.tmod 20 := by rw [IntKind.wrap_i64]; omega
      have ws : IntKind.i64.wrap (r.gap + x.tmod 20) = r.gap + x.tmod 20 := by rw [IntKind.wrap_i64]; omega
      have PB2 := Lib.hid (PB1.out.trans (hbk.mono PB1.out.size))
      have PA2 := Lib.hid (PA1.out.below hbk)
      have QS := Lib.hid (show wq2.cell? ⟨w1.heap.size + 1, 0, none⟩ = some (.int .i64 r.gap) from cell_onV KQ.out PB2.out)
      clear hbk
      go_simp
      refine hK.out _ _ QS.out (fun hHeld => ?_)
      clear hK K
      (try simp only [Act.put]); (try simp only [List.setIfInBounds_toArray]); (try simp only [List.set_cons_succ]); (try simp only [List.set_cons_zero])
      refine wpAnyH_take (i := 4) (v := ?_) (by simp only [List.getElem?_toArray, List.getElem?_cons_succ, List.getElem?_cons_zero]; rfl) (by kernel_rfl) (by kernel_rfl) (by kernel_rfl) (by exact fun _ _ _ h => h) (Or.inl ⟨by rfl, ?_⟩) (by assumption) ?_; rotate_left; focus (intro w hSw; (try dsimp only at hSw); first | (go_simp; done) | (go_simp; with_reducible rfl))
      (try simp only [Act.put]); (try simp only [List.setIfInBounds_toArray]); (try simp only [List.set_cons_succ]); (try simp only [List.set_cons_zero])
      refine wpAnyH_take (i := 5) (v := ?_) (by simp only [List.getElem?_toArray, List.getElem?_cons_succ, List.getElem?_cons_zero]; rfl) (by kernel_rfl) (by kernel_rfl) (by kernel_rfl) (by exact fun _ _ _ h => h) (Or.inl ⟨by rfl, ?_⟩) (by assumption) ?_; rotate_left; focus (intro w hSw; (try dsimp only at hSw); first | (go_simp; done) | (go_simp; with_reducible rfl))
      (try simp only [Act.put]); (try simp only [List.setIfInBounds_toArray]); (try simp only [List.set_cons_succ]); (try simp only [List.set_cons_zero])
      refine wpAnyH_take (i := 6) (v := ?_) (by simp only [List.getElem?_toArray, List.getElem?_cons_succ, List.getElem?_cons_zero]; rfl) (by kernel_rfl) (by kernel_rfl) (by kernel_rfl) (by exact fun _ _ _ h => h) (Or.inl ⟨by rfl, ?_⟩) (by assumption) ?_; rotate_left; focus (intro w hSw; (try dsimp only at hSw); first | (go_simp; done) | (go_simp; with_reducible rfl))
      (try simp only [Act.put]); (try simp only [List.setIfInBounds_toArray]); (try simp only [List.set_cons_succ]); (try simp only [List.set_cons_zero])
      refine wpAnyH_ready (rs := [8]) (by kernel_rfl) (by simp) ?_
      refine AllReadyH.cons rfl (fun K hK => ?_) (AllReadyH.nil)
      have r0 : wq2.cell? ⟨gs, 0, none⟩ = some (.int .i64 0) := PA2.out.cell 0
      have r1 : wq2.cell? ⟨gs, 1, none⟩ = some (.bool false) := PA2.out.cell 1
      have s0 : wq2.frozen? ⟨gs, 0, none⟩ = false := PA2.out.free 0
      have s1 : wq2.frozen? ⟨gs, 1, none⟩ = false := PA2.out.free 1
      rw [if_pos (by rfl)]
      go_simp
      have KN := (PA2.out.set 0 (.int .i64 (r.gap + x.tmod 20))).set 1 (.bool true)
      simp only [List.setIfInBounds_toArray, List.set_cons_zero, List.set_cons_succ] at KN
      have hb := (PB2.out.setCell (p := ⟨gs, 0, none⟩) hgl (.int .i64 (r.gap + x.tmod 20))).setCell (p := ⟨gs, 1, none⟩) hgl (.bool true)
      obtain ⟨wq3, hwq⟩ : ∃ X, X = ((wq2.setCell ⟨gs, 0, none⟩ (.int .i64 (r.gap + x.tmod 20))).setCell ⟨gs, 1, none⟩ (.bool true)) := ⟨_, rfl⟩
      rw [← hwq] at KN hb ⊢
      have PA3 := Lib.hid KN
      have PB3 := Lib.hid hb
      have QS := Lib.hid (show wq3.cell? ⟨w1.heap.size + 1, 0, none⟩ = some (.int .i64 r.gap) from cell_onV KQ.out PB3.out)
      clear KN hb hwq r0 r1 s0 s1
      refine hK.out _ _ QS.out (fun hHeld => ?_)
      clear hK K
      (try simp only [Act.put]); (try simp only [List.setIfInBounds_toArray]); (try simp only [List.set_cons_succ]); (try simp only [List.set_cons_zero])
      refine wpAnyH_done (by kernel_rfl) ?_ _
      go_wp2_with fail
      go_meet
      exact ⟨gs, x.tmod 20, rfl, z0, z1, PA3, PB3⟩
  case rest =>
    obtain ⟨gs, z, rfl, z0, z1, hKS, hBB⟩ := hcut
    obtain ⟨w3, rfl⟩ : ∃ X, X = wc := ⟨_, rfl⟩
    have hb := hBB.out
    clear hBB vq KQ hge
    have HC3 := Lib.hid (HC2.out.below hb)
    have RD3 := Lib.hid (RD2.out.below hb)
    have RL3 := Lib.hid (SlPassage.below RL2.out hb)
    have KH3 := Lib.hid (KH2.out.below hb)
    have KR3 := Lib.hid (KR2.out.below hb)
    have B3 := Lib.hid (B2.out.trans (hb.mono B2.out.size))
    clear hb B2 HC2 RD2 RL2 KH2 KR2
    have KS3 := Lib.hid hKS.out
    clear hKS
    have HST := Lib.hid (show strictB ⟨r.gap + z, true⟩ r = true from by
      have h1 := of_decide_eq_true (show decide (0 ≤ r.gap ∧ r.gap ≤ 60) = true from HRB.out)
      unfold strictB
      rw [show regB ⟨r.gap + z, true⟩ = true from decide_eq_true (by dsimp only; omega), HRB.out]
      simp
      omega)
    have vKH0 : w3.cell? ⟨w1.heap.size, 0, none⟩ = some (.slice A0 n0 c0) := KH3.out.cell 0
    have vKH1 : w3.cell? ⟨w1.heap.size, 1, none⟩ = some (.slice A1 n1 c1) := KH3.out.cell 1
    have vKR0 : w3.cell? ⟨w1.heap.size + 1, 0, none⟩ = some (.int .i64 r.gap) := KR3.out.cell 0
    have vKR1 : w3.cell? ⟨w1.heap.size + 1, 1, none⟩ = some (.bool r.noMeet) := KR3.out.cell 1
    have vKS0 : w3.cell? ⟨gs, 0, none⟩ = some (.int .i64 (r.gap + z)) := KS3.out.cell 0
    have vKS1 : w3.cell? ⟨gs, 1, none⟩ = some (.bool true) := KS3.out.cell 1
    obtain ⟨FF, hFF⟩ : ∃ F, firstC d r l = F := ⟨_, rfl⟩
    obtain ⟨i, hi⟩ : ∃ i, fcI FF = i := ⟨_, rfl⟩
    obtain ⟨k, hk⟩ : ∃ k, fcK FF = k := ⟨_, rfl⟩
    obtain ⟨m, hm⟩ : ∃ m, fcN FF = m := ⟨_, rfl⟩
    have HFF := Lib.hid hFF
    have HI := Lib.hid hi
    have HK := Lib.hid hk
    have HM := Lib.hid hm
    have hid := HID.out
    have hbn := HBN.out
    rw [hFF, hi, hk, hm] at hid
    rw [hFF, hm] at hbn
    obtain ⟨e1, e2⟩ := hid
    obtain ⟨m0, m4⟩ := hbn
    have E1 := Lib.hid e1
    have E2 := Lib.hid e2
    have HCL := Lib.hid (show clearB d r l = (m == 0) by unfold clearB; rw [HCB.out, HRB.out, hFF, hm]; simp)
    have HCN := Lib.hid (confName_some m0 m4)
    clear hFF hi hk hm e1 e2
    go_wp2_with fail
    clear vKH0 vKH1 vKR0 vKR1 vKS0 vKS1
    refine (implFirstConflict _ _ d r _ l _ RD3.out RL3.out NM.out WF.out).mono ?_
    rw [HFF.out, HI.out, HK.out, HM.out]
    rintro e w4 ⟨rfl, hb⟩
    have HC4 := Lib.hid (HC3.out.below hb)
    have RD4 := Lib.hid (RD3.out.below hb)
    have RL4 := Lib.hid (SlPassage.below RL3.out hb)
    have KH4 := Lib.hid (KH3.out.below hb)
    have KR4 := Lib.hid (KR3.out.below hb)
    have KS4 := Lib.hid (KS3.out.below hb)
    have B4 := Lib.hid (B3.out.trans (hb.mono B3.out.size))
    clear hb B3 HC3 RD3 RL3 KH3 KR3 KS3
    go_upto_region 6 with fail
    go_cut [70] (fun s wx => s = .bool false ∧ Hid (Below w4.heap.size w4 wx))
    case first =>
      have vKH0 : w4.cell? ⟨w1.heap.size, 0, none⟩ = some (.slice A0 n0 c0) := KH4.out.cell 0
      have vKH1 : w4.cell? ⟨w1.heap.size, 1, none⟩ = some (.slice A1 n1 c1) := KH4.out.cell 1
      have vKR0 : w4.cell? ⟨w1.heap.size + 1, 0, none⟩ = some (.int .i64 r.gap) := KR4.out.cell 0
      have vKR1 : w4.cell? ⟨w1.heap.size + 1, 1, none⟩ = some (.bool r.noMeet) := KR4.out.cell 1
      have vKS0 : w4.cell? ⟨gs, 0, none⟩ = some (.int .i64 (r.gap + z)) := KS4.out.cell 0
      have vKS1 : w4.cell? ⟨gs, 1, none⟩ = some (.bool true) := KS4.out.cell 1
      go_wp2_with fail
      clear vKH0 vKH1 vKR0 vKR1 vKS0 vKS1
      refine (implStricterRegime ⟨r.gap + z, true⟩ r _).mono ?_
      rw [HST.out]
      rintro e w5 ⟨rfl, hb⟩
      have BZ5 := Lib.hid (hb)
      have HC5 := Lib.hid (HC4.out.below hb)
      have RD5 := Lib.hid (RD4.out.below hb)
      have RL5 := Lib.hid (SlPassage.below RL4.out hb)
      have KH5 := Lib.hid (KH4.out.below hb)
      have KR5 := Lib.hid (KR4.out.below hb)
      have KS5 := Lib.hid (KS4.out.below hb)
      have B5 := Lib.hid (B4.out.trans (hb.mono B4.out.size))
      clear hb B4 HC4 RD4 RL4 KH4 KR4 KS4
      have vKH0 : w5.cell? ⟨w1.heap.size, 0, none⟩ = some (.slice A0 n0 c0) := KH5.out.cell 0
      have vKH1 : w5.cell? ⟨w1.heap.size, 1, none⟩ = some (.slice A1 n1 c1) := KH5.out.cell 1
      have vKR0 : w5.cell? ⟨w1.heap.size + 1, 0, none⟩ = some (.int .i64 r.gap) := KR5.out.cell 0
      have vKR1 : w5.cell? ⟨w1.heap.size + 1, 1, none⟩ = some (.bool r.noMeet) := KR5.out.cell 1
      have vKS0 : w5.cell? ⟨gs, 0, none⟩ = some (.int .i64 (r.gap + z)) := KS5.out.cell 0
      have vKS1 : w5.cell? ⟨gs, 1, none⟩ = some (.bool true) := KS5.out.cell 1
      go_wp2_with fail
      clear vKH0 vKH1 vKR0 vKR1 vKS0 vKS1
      refine (implRegimeOk r _).mono ?_
      rw [HRB.out]
      rintro e w6 ⟨rfl, hb⟩
      have BZ6 := Lib.hid (BZ5.out.trans (hb.mono BZ5.out.size))
      have HC6 := Lib.hid (HC5.out.below hb)
      have RD6 := Lib.hid (RD5.out.below hb)
      have RL6 := Lib.hid (SlPassage.below RL5.out hb)
      have KH6 := Lib.hid (KH5.out.below hb)
      have KR6 := Lib.hid (KR5.out.below hb)
      have KS6 := Lib.hid (KS5.out.below hb)
      have B6 := Lib.hid (B5.out.trans (hb.mono B5.out.size))
      clear hb B5 HC5 RD5 RL5 KH5 KR5 KS5
      have vKH0 : w6.cell? ⟨w1.heap.size, 0, none⟩ = some (.slice A0 n0 c0) := KH6.out.cell 0
      have vKH1 : w6.cell? ⟨w1.heap.size, 1, none⟩ = some (.slice A1 n1 c1) := KH6.out.cell 1
      have vKR0 : w6.cell? ⟨w1.heap.size + 1, 0, none⟩ = some (.int .i64 r.gap) := KR6.out.cell 0
      have vKR1 : w6.cell? ⟨w1.heap.size + 1, 1, none⟩ = some (.bool r.noMeet) := KR6.out.cell 1
      have vKS0 : w6.cell? ⟨gs, 0, none⟩ = some (.int .i64 (r.gap + z)) := KS6.out.cell 0
      have vKS1 : w6.cell? ⟨gs, 1, none⟩ = some (.bool true) := KS6.out.cell 1
      go_wp2_with fail
      clear vKH0 vKH1 vKR0 vKR1 vKS0 vKS1
      refine (implIsClear _ _ d r _ l _ RD6.out RL6.out NM.out WF.out).mono ?_
      rw [HCL.out]
      rintro e w7 ⟨rfl, hb⟩
      have BZ7 := Lib.hid (BZ6.out.trans (hb.mono BZ6.out.size))
      have HC7 := Lib.hid (HC6.out.below hb)
      have RD7 := Lib.hid (RD6.out.below hb)
      have RL7 := Lib.hid (SlPassage.below RL6.out hb)
      have KH7 := Lib.hid (KH6.out.below hb)
      have KR7 := Lib.hid (KR6.out.below hb)
      have KS7 := Lib.hid (KS6.out.below hb)
      have B7 := Lib.hid (B6.out.trans (hb.mono B6.out.size))
      clear hb B6 HC6 RD6 RL6 KH6 KR6 KS6
      obtain ⟨cn, hcn⟩ : ∃ cn, confName m = cn := ⟨_, rfl⟩
      have hcn0 := HCN.out
      rw [hcn] at hcn0
      have HCM := Lib.hid hcn
      have hcn1 : (cn.toList == []) = false := by simpa using hcn0
      clear hcn hcn0
      obtain ⟨nb, hnb⟩ : ∃ b, (m == 0) = b := ⟨_, rfl⟩
      have e1 := E1.out
      have e2 := E2.out
      rw [hnb] at e1 e2
      (try rw [hnb])
      cases nb
      case false =>
        have vKH0 : w7.cell? ⟨w1.heap.size, 0, none⟩ = some (.slice A0 n0 c0) := KH7.out.cell 0
        have vKH1 : w7.cell? ⟨w1.heap.size, 1, none⟩ = some (.slice A1 n1 c1) := KH7.out.cell 1
        have vKR0 : w7.cell? ⟨w1.heap.size + 1, 0, none⟩ = some (.int .i64 r.gap) := KR7.out.cell 0
        have vKR1 : w7.cell? ⟨w1.heap.size + 1, 1, none⟩ = some (.bool r.noMeet) := KR7.out.cell 1
        have vKS0 : w7.cell? ⟨gs, 0, none⟩ = some (.int .i64 (r.gap + z)) := KS7.out.cell 0
        have vKS1 : w7.cell? ⟨gs, 1, none⟩ = some (.bool true) := KS7.out.cell 1
        go_wp2_with fail
        clear vKH0 vKH1 vKR0 vKR1 vKS0 vKS1
        refine (implConflictName m _).mono ?_
        rw [HCM.out]
        rintro e w8 ⟨rfl, hb⟩
        have BZ8 := Lib.hid (BZ7.out.trans (hb.mono BZ7.out.size))
        have HC8 := Lib.hid (HC7.out.below hb)
        have RD8 := Lib.hid (RD7.out.below hb)
        have RL8 := Lib.hid (SlPassage.below RL7.out hb)
        have KH8 := Lib.hid (KH7.out.below hb)
        have KR8 := Lib.hid (KR7.out.below hb)
        have KS8 := Lib.hid (KS7.out.below hb)
        have B8 := Lib.hid (B7.out.trans (hb.mono B7.out.size))
        clear hb B7 HC7 RD7 RL7 KH7 KR7 KS7
        go_wp2_with fail
        go_meet
        exact ⟨rfl, BZ8⟩
      case true =>
        have vKH0 : w7.cell? ⟨w1.heap.size, 0, none⟩ = some (.slice A0 n0 c0) := KH7.out.cell 0
        have vKH1 : w7.cell? ⟨w1.heap.size, 1, none⟩ = some (.slice A1 n1 c1) := KH7.out.cell 1
        have vKR0 : w7.cell? ⟨w1.heap.size + 1, 0, none⟩ = some (.int .i64 r.gap) := KR7.out.cell 0
        have vKR1 : w7.cell? ⟨w1.heap.size + 1, 1, none⟩ = some (.bool r.noMeet) := KR7.out.cell 1
        have vKS0 : w7.cell? ⟨gs, 0, none⟩ = some (.int .i64 (r.gap + z)) := KS7.out.cell 0
        have vKS1 : w7.cell? ⟨gs, 1, none⟩ = some (.bool true) := KS7.out.cell 1
        go_wp2_with fail
        clear vKH0 vKH1 vKR0 vKR1 vKS0 vKS1
        refine (implConflictName m _).mono ?_
        rw [HCM.out]
        rintro e w8 ⟨rfl, hb⟩
        have BZ8 := Lib.hid (BZ7.out.trans (hb.mono BZ7.out.size))
        have HC8 := Lib.hid (HC7.out.below hb)
        have RD8 := Lib.hid (RD7.out.below hb)
        have RL8 := Lib.hid (SlPassage.below RL7.out hb)
        have KH8 := Lib.hid (KH7.out.below hb)
        have KR8 := Lib.hid (KR7.out.below hb)
        have KS8 := Lib.hid (KS7.out.below hb)
        have B8 := Lib.hid (B7.out.trans (hb.mono B7.out.size))
        clear hb B7 HC7 RD7 RL7 KH7 KR7 KS7
        go_wp2_with fail
        go_meet
        exact ⟨rfl, BZ8⟩
    case rest =>
      obtain ⟨rfl, hBB⟩ := hcut
      obtain ⟨w5, rfl⟩ : ∃ X, X = wc := ⟨_, rfl⟩
      have hb := hBB.out
      clear hBB
      have HC5 := Lib.hid (HC4.out.below hb)
      have RD5 := Lib.hid (RD4.out.below hb)
      have RL5 := Lib.hid (SlPassage.below RL4.out hb)
      have KH5 := Lib.hid (KH4.out.below hb)
      have KR5 := Lib.hid (KR4.out.below hb)
      have KS5 := Lib.hid (KS4.out.below hb)
      have B5 := Lib.hid (B4.out.trans (hb.mono B4.out.size))
      clear hb B4 HC4 RD4 RL4 KH4 KR4 KS4
      go_wp2
      go_loopw [73] (fun i wr => ∃ b : Nat, b ≤ L ∧ i = .int .i64 (b : Int) ∧ Hid (Below w5.heap.size w5 wr)) (fun i _ => L - (intOf i).toNat)
      case atStart => exact ⟨0, Nat.zero_le _, rfl, Lib.hid (Below.refl _ _)⟩
      case round =>
        obtain ⟨b, hb, rfl, hbo⟩ := hrel
        by_cases hlt : b < L
        rotate_left
        · obtain rfl : b = L := by omega
          go_wp2
          go_ret
          exact ⟨rfl, B5.out.trans (hbo.out.mono B5.out.size)⟩
        obtain ⟨wo, rfl⟩ : ∃ X, X = wr := ⟨_, rfl⟩
        go_wp2
        go_loopw [11] (fun i wr => ∃ a : Nat, a ≤ b ∧ i = .int .i64 (a : Int) ∧ Hid (Below w5.heap.size w5 wr)) (fun i _ => b - (intOf i).toNat)
        case atStart => exact ⟨0, Nat.zero_le _, rfl, hbo⟩
        case round =>
          clear hbo
          obtain ⟨a, ha, rfl, hbo⟩ := hrel
          have hb6 := hbo.out
          have HC6 := Lib.hid (HC5.out.below hb6)
          have RD6 := Lib.hid (RD5.out.below hb6)
          have RL6 := Lib.hid (SlPassage.below RL5.out hb6)
          have KH6 := Lib.hid (KH5.out.below hb6)
          have KR6 := Lib.hid (KR5.out.below hb6)
          have KS6 := Lib.hid (KS5.out.below hb6)
          have B6 := Lib.hid (B5.out.trans (hb6.mono B5.out.size))
          by_cases hab : a < b
          rotate_left
          · obtain rfl : a = b := by omega
            go_wp2
            go_roundw
            case rel => exact ⟨a + 1, by omega, by go_num, hbo⟩
            case measure => simp [intOf]; omega
          obtain ⟨p, hp⟩ : ∃ p, l[a]? = some p := ⟨_, List.getElem?_eq_getElem (by have := HL.out; omega)⟩
          obtain ⟨q, hq⟩ : ∃ q, l[b]? = some q := ⟨_, List.getElem?_eq_getElem (by have := HL.out; omega)⟩
          have WP := Lib.hid (WF.out p (List.mem_of_getElem? hp))
          have WQ := Lib.hid (WF.out q (List.mem_of_getElem? hq))
          have HP := Lib.hid hp
          have HQ := Lib.hid hq
          have HFB := Lib.hid (fun h => first_before (d := d) (r := r) hab hp hq h)
          rcases RL6.out.2 with ⟨he, _⟩ | ⟨gl, ol, cl', e, lpos, lcap, lc⟩
          · rw [he] at hp; simp at hp
          injection e with hA' hl' hcp'
          subst hA' hcp'
          clear hl'
          obtain ⟨p0, p1, p2, p3, p4⟩ := SlPassage.cells lc a p hp
          obtain ⟨q0, q1, q2, q3, q4⟩ := SlPassage.cells lc b q hq
          have Fp0 := Lib.hid (show wr.cell? ⟨gl, ol + a * 5, none⟩ = some (.int .i64 p.ship) from p0)
          have Fp1 := Lib.hid (show wr.cell? ⟨gl, ol + a * 5 + 1, none⟩ = some (.int .i64 p.segment) from p1)
          have Fp2 := Lib.hid (show wr.cell? ⟨gl, ol + a * 5 + 2, none⟩ = some (.bool p.toward) from p2)
          have Fp3 := Lib.hid (show wr.cell? ⟨gl, ol + a * 5 + 3, none⟩ = some (.int .i64 p.start) from p3)
          have Fp4 := Lib.hid (show wr.cell? ⟨gl, ol + a * 5 + 4, none⟩ = some (.int .i64 p.stop) from p4)
          have Fq0 := Lib.hid (show wr.cell? ⟨gl, ol + b * 5, none⟩ = some (.int .i64 q.ship) from q0)
          have Fq1 := Lib.hid (show wr.cell? ⟨gl, ol + b * 5 + 1, none⟩ = some (.int .i64 q.segment) from q1)
          have Fq2 := Lib.hid (show wr.cell? ⟨gl, ol + b * 5 + 2, none⟩ = some (.bool q.toward) from q2)
          have Fq3 := Lib.hid (show wr.cell? ⟨gl, ol + b * 5 + 3, none⟩ = some (.int .i64 q.start) from q3)
          have Fq4 := Lib.hid (show wr.cell? ⟨gl, ol + b * 5 + 4, none⟩ = some (.int .i64 q.stop) from q4)
          clear p0 p1 p2 p3 p4 q0 q1 q2 q3 q4 lc hp hq
          have haL : a < L := by omega
          obtain ⟨t, ht⟩ : ∃ t, confI d r p q = t := ⟨_, rfl⟩
          have HT := Lib.hid ht
          have HT2 := Lib.hid ((confI_comm d r q p).trans ht)
          obtain ⟨ov, hov⟩ : ∃ b, overB p q = b := ⟨_, rfl⟩
          have HO := Lib.hid hov
          have HO2 := Lib.hid ((overB_comm q p).trans hov)
          clear ht hov
          go_upto_region 14 with fail
          have FKH0 := Lib.hid (show wr.cell? ⟨w1.heap.size, 0, none⟩ = some (.slice A0 n0 c0) from KH6.out.cell 0)
          have FKH1 := Lib.hid (show wr.cell? ⟨w1.heap.size, 1, none⟩ = some (.slice A1 n1 c1) from KH6.out.cell 1)
          have FKR0 := Lib.hid (show wr.cell? ⟨w1.heap.size + 1, 0, none⟩ = some (.int .i64 r.gap) from KR6.out.cell 0)
          have FKR1 := Lib.hid (show wr.cell? ⟨w1.heap.size + 1, 1, none⟩ = some (.bool r.noMeet) from KR6.out.cell 1)
          have DD := Lib.hid ((Below.refl wr.heap.size wr).drew)
          have vFKH0 := FKH0.out
          have vFKH1 := FKH1.out
          have vFKR0 := FKR0.out
          have vFKR1 := FKR1.out
          have vFp0 := Fp0.out
          have vFp1 := Fp1.out
          have vFp2 := Fp2.out
          have vFp3 := Fp3.out
          have vFp4 := Fp4.out
          have vFq0 := Fq0.out
          have vFq1 := Fq1.out
          have vFq2 := Fq2.out
          have vFq3 := Fq3.out
          have vFq4 := Fq4.out
          refine wp_region_held_drew (S := (fun w' => w'.cell? ⟨w1.heap.size, 0, none⟩ = some (.slice A0 n0 c0) ∧ w'.cell? ⟨w1.heap.size, 1, none⟩ = some (.slice A1 n1 c1) ∧ w'.cell? ⟨w1.heap.size + 1, 0, none⟩ = some (.int .i64 r.gap) ∧ w'.cell? ⟨w1.heap.size + 1, 1, none⟩ = some (.bool r.noMeet) ∧ w'.cell? ⟨gl, ol + a * 5, none⟩ = some (.int .i64 p.ship) ∧ w'.cell? ⟨gl, ol + a * 5 + 1, none⟩ = some (.int .i64 p.segment) ∧ w'.cell? ⟨gl, ol + a * 5 + 2, none⟩ = some (.bool p.toward) ∧ w'.cell? ⟨gl, ol + a * 5 + 3, none⟩ = some (.int .i64 p.start) ∧ w'.cell? ⟨gl, ol + a * 5 + 4, none⟩ = some (.int .i64 p.stop) ∧ w'.cell? ⟨gl, ol + b * 5, none⟩ = some (.int .i64 q.ship) ∧ w'.cell? ⟨gl, ol + b * 5 + 1, none⟩ = some (.int .i64 q.segment) ∧ w'.cell? ⟨gl, ol + b * 5 + 2, none⟩ = some (.bool q.toward) ∧ w'.cell? ⟨gl, ol + b * 5 + 3, none⟩ = some (.int .i64 q.start) ∧ w'.cell? ⟨gl, ol + b * 5 + 4, none⟩ = some (.int .i64 q.stop) ∧ Hid (Below wr.heap.size wr w'))) (by kernel_rfl) ?_ (fun hHeld => ?_)
          · (try dsimp only); go_keep
          refine wpAnyH_take (i := 0) (v := ?_) (by simp only [List.getElem?_toArray, List.getElem?_cons_zero]; rfl) (by kernel_rfl) (by kernel_rfl) (by kernel_rfl) (by exact fun _ _ _ h => h) (Or.inl ⟨by rfl, ?_⟩) (by assumption) ?_; rotate_left; focus (intro w hSw; (try dsimp only at hSw); first | (go_simp; done) | (go_simp; with_reducible rfl))
          try simp only [Act.put, List.setIfInBounds_toArray, List.set_cons_zero, List.set_cons_succ]
          refine wpAnyH_take (i := 1) (v := ?_) (by simp only [List.getElem?_toArray, List.getElem?_cons_succ, List.getElem?_cons_zero]; rfl) (by kernel_rfl) (by kernel_rfl) (by kernel_rfl) (by exact fun _ _ _ h => h) (Or.inl ⟨by rfl, ?_⟩) (by assumption) ?_; rotate_left; focus (intro w hSw; (try dsimp only at hSw); first | (go_simp; done) | (go_simp; with_reducible rfl))
          try simp only [Act.put, List.setIfInBounds_toArray, List.set_cons_zero, List.set_cons_succ]
          refine wpAnyH_take (i := 2) (v := ?_) (by simp only [List.getElem?_toArray, List.getElem?_cons_succ, List.getElem?_cons_zero]; rfl) (by kernel_rfl) (by kernel_rfl) (by kernel_rfl) (by exact fun _ _ _ h => h) (Or.inl ⟨by rfl, ?_⟩) (by assumption) ?_; rotate_left; focus (intro w hSw; (try dsimp only at hSw); first | (go_simp; done) | (go_simp; with_reducible rfl))
          try simp only [Act.put, List.setIfInBounds_toArray, List.set_cons_zero, List.set_cons_succ]
          refine wpAnyH_take (i := 3) (v := ?_) (by simp only [List.getElem?_toArray, List.getElem?_cons_succ, List.getElem?_cons_zero]; rfl) (by kernel_rfl) (by kernel_rfl) (by kernel_rfl) (by exact fun _ _ _ h => h) (Or.inl ⟨by rfl, ?_⟩) (by assumption) ?_; rotate_left; focus (intro w hSw; (try dsimp only at hSw); first | (go_simp; done) | (go_simp; with_reducible rfl))
          try simp only [Act.put, List.setIfInBounds_toArray, List.set_cons_zero, List.set_cons_succ]
          refine wpAnyH_take (i := 4) (v := ?_) (by simp only [List.getElem?_toArray, List.getElem?_cons_succ, List.getElem?_cons_zero]; rfl) (by kernel_rfl) (by kernel_rfl) (by kernel_rfl) (by exact fun _ _ _ h => h) (Or.inl ⟨by rfl, ?_⟩) (by assumption) ?_; rotate_left; focus (intro w hSw; (try dsimp only at hSw); first | (go_simp; done) | (go_simp; with_reducible rfl))
          try simp only [Act.put, List.setIfInBounds_toArray, List.set_cons_zero, List.set_cons_succ]
          refine wpAnyH_take (i := 5) (v := ?_) (by simp only [List.getElem?_toArray, List.getElem?_cons_succ, List.getElem?_cons_zero]; rfl) (by kernel_rfl) (by kernel_rfl) (by kernel_rfl) (by exact fun _ _ _ h => h) (Or.inl ⟨by rfl, ?_⟩) (by assumption) ?_; rotate_left; focus (intro w hSw; (try dsimp only at hSw); first | (go_simp; done) | (go_simp; with_reducible rfl))
          try simp only [Act.put, List.setIfInBounds_toArray, List.set_cons_zero, List.set_cons_succ]
          refine wpAnyH_take (i := 6) (v := ?_) (by simp only [List.getElem?_toArray, List.getElem?_cons_succ, List.getElem?_cons_zero]; rfl) (by kernel_rfl) (by kernel_rfl) (by kernel_rfl) (by exact fun _ _ _ h => h) (Or.inl ⟨by rfl, ?_⟩) (by assumption) ?_; rotate_left; focus (intro w hSw; (try dsimp only at hSw); first | (go_simp; done) | (go_simp; with_reducible rfl))
          try simp only [Act.put, List.setIfInBounds_toArray, List.set_cons_zero, List.set_cons_succ]
          refine wpAnyH_take (i := 7) (v := ?_) (by simp only [List.getElem?_toArray, List.getElem?_cons_succ, List.getElem?_cons_zero]; rfl) (by kernel_rfl) (by kernel_rfl) (by kernel_rfl) (by exact fun _ _ _ h => h) (Or.inl ⟨by rfl, ?_⟩) (by assumption) ?_; rotate_left; focus (intro w hSw; (try dsimp only at hSw); first | (go_simp; done) | (go_simp; with_reducible rfl))
          try simp only [Act.put, List.setIfInBounds_toArray, List.set_cons_zero, List.set_cons_succ]
          refine wpAnyH_take (i := 8) (v := ?_) (by simp only [List.getElem?_toArray, List.getElem?_cons_succ, List.getElem?_cons_zero]; rfl) (by kernel_rfl) (by kernel_rfl) (by kernel_rfl) (by exact fun _ _ _ h => h) (Or.inl ⟨by rfl, ?_⟩) (by assumption) ?_; rotate_left; focus (intro w hSw; (try dsimp only at hSw); first | (go_simp; done) | (go_simp; with_reducible rfl))
          try simp only [Act.put, List.setIfInBounds_toArray, List.set_cons_zero, List.set_cons_succ]
          refine wpAnyH_take (i := 9) (v := ?_) (by simp only [List.getElem?_toArray, List.getElem?_cons_succ, List.getElem?_cons_zero]; rfl) (by kernel_rfl) (by kernel_rfl) (by kernel_rfl) (by exact fun _ _ _ h => h) (Or.inl ⟨by rfl, ?_⟩) (by assumption) ?_; rotate_left; focus (intro w hSw; (try dsimp only at hSw); first | (go_simp; done) | (go_simp; with_reducible rfl))
          try simp only [Act.put, List.setIfInBounds_toArray, List.set_cons_zero, List.set_cons_succ]
          refine wpAnyH_ready (rs := [10]) (by kernel_rfl) (by simp) ?_
          refine AllReadyH.cons rfl (fun K hK => ?_) AllReadyH.nil
          rw [if_pos (by rfl)]
          go_simp
          go_at_call 19
          have kB := hHeld.2.2.2.2.2.2.2.2.2.2.2.2.2.2
          refine (implConflictOf _ _ d r p q _ (RD6.out.below kB.out) NM.out WP.out WQ.out).mono ?_
          rw [HT.out]
          rintro e wq10 ⟨rfl, hbk⟩
          have HBK := kB.out.trans (hbk.mono kB.out.size)
          have QS := Lib.hid (show wq10.cell? ⟨w1.heap.size, 0, none⟩ = some (.slice A0 n0 c0) ∧ wq10.cell? ⟨w1.heap.size, 1, none⟩ = some (.slice A1 n1 c1) ∧ wq10.cell? ⟨w1.heap.size + 1, 0, none⟩ = some (.int .i64 r.gap) ∧ wq10.cell? ⟨w1.heap.size + 1, 1, none⟩ = some (.bool r.noMeet) ∧ wq10.cell? ⟨gl, ol + a * 5, none⟩ = some (.int .i64 p.ship) ∧ wq10.cell? ⟨gl, ol + a * 5 + 1, none⟩ = some (.int .i64 p.segment) ∧ wq10.cell? ⟨gl, ol + a * 5 + 2, none⟩ = some (.bool p.toward) ∧ wq10.cell? ⟨gl, ol + a * 5 + 3, none⟩ = some (.int .i64 p.start) ∧ wq10.cell? ⟨gl, ol + a * 5 + 4, none⟩ = some (.int .i64 p.stop) ∧ wq10.cell? ⟨gl, ol + b * 5, none⟩ = some (.int .i64 q.ship) ∧ wq10.cell? ⟨gl, ol + b * 5 + 1, none⟩ = some (.int .i64 q.segment) ∧ wq10.cell? ⟨gl, ol + b * 5 + 2, none⟩ = some (.bool q.toward) ∧ wq10.cell? ⟨gl, ol + b * 5 + 3, none⟩ = some (.int .i64 q.start) ∧ wq10.cell? ⟨gl, ol + b * 5 + 4, none⟩ = some (.int .i64 q.stop) ∧ Hid (Below wr.heap.size wr wq10) from ⟨cell_onV FKH0.out HBK, cell_onV FKH1.out HBK, cell_onV FKR0.out HBK, cell_onV FKR1.out HBK, cell_onV Fp0.out HBK, cell_onV Fp1.out HBK, cell_onV Fp2.out HBK, cell_onV Fp3.out HBK, cell_onV Fp4.out HBK, cell_onV Fq0.out HBK, cell_onV Fq1.out HBK, cell_onV Fq2.out HBK, cell_onV Fq3.out HBK, cell_onV Fq4.out HBK, Lib.hid HBK⟩)
          clear hbk kB hHeld HBK
          go_simp
          refine hK.out _ _ ?_ (fun hHeld => ?_)
          · (try dsimp only); exact QS.out
          clear hK K
          try simp only [Act.put, List.setIfInBounds_toArray, List.set_cons_zero, List.set_cons_succ]
          refine wpAnyH_take (i := 11) (v := ?_) (by simp only [List.getElem?_toArray, List.getElem?_cons_succ, List.getElem?_cons_zero]; rfl) (by kernel_rfl) (by kernel_rfl) (by kernel_rfl) (by exact fun _ _ _ h => h) (Or.inl ⟨by rfl, ?_⟩) (by assumption) ?_; rotate_left; focus (intro w hSw; (try dsimp only at hSw); first | (go_simp; done) | (go_simp; with_reducible rfl))
          try simp only [Act.put, List.setIfInBounds_toArray, List.set_cons_zero, List.set_cons_succ]
          refine wpAnyH_done (by kernel_rfl) ?_ _
          have hb7 := hHeld.2.2.2.2.2.2.2.2.2.2.2.2.2.2.out
          clear hHeld DD vFKH0 FKH0 vFKH1 FKH1 vFKR0 FKR0 vFKR1 FKR1 vFp0 vFp1 vFp2 vFp3 vFp4 vFq0 vFq1 vFq2 vFq3 vFq4
          skip
          obtain ⟨w7, hw7⟩ : ∃ X, X = wq10 := ⟨_, rfl⟩
          rw [← hw7] at hb7 ⊢
          clear hw7
          have HC7 := Lib.hid (HC6.out.below hb7)
          have RD7 := Lib.hid (RD6.out.below hb7)
          have RL7 := Lib.hid (SlPassage.below RL6.out hb7)
          have KH7 := Lib.hid (KH6.out.below hb7)
          have KR7 := Lib.hid (KR6.out.below hb7)
          have KS7 := Lib.hid (KS6.out.below hb7)
          have B7 := Lib.hid (B6.out.trans (hb7.mono B6.out.size))
          have Gp0 := Lib.hid (cell_onV Fp0.out hb7)
          have Gp1 := Lib.hid (cell_onV Fp1.out hb7)
          have Gp2 := Lib.hid (cell_onV Fp2.out hb7)
          have Gp3 := Lib.hid (cell_onV Fp3.out hb7)
          have Gp4 := Lib.hid (cell_onV Fp4.out hb7)
          have Gq0 := Lib.hid (cell_onV Fq0.out hb7)
          have Gq1 := Lib.hid (cell_onV Fq1.out hb7)
          have Gq2 := Lib.hid (cell_onV Fq2.out hb7)
          have Gq3 := Lib.hid (cell_onV Fq3.out hb7)
          have Gq4 := Lib.hid (cell_onV Fq4.out hb7)
          have hbo7 := Lib.hid (show Below w5.heap.size w5 w7 from hbo.out.trans (hb7.mono hbo.out.size))
          clear hb7
          by_cases ht0 : t = 0
          · subst ht0
            go_upto_region 15 with fail
            have FKH0 := Lib.hid (show w7.cell? ⟨w1.heap.size, 0, none⟩ = some (.slice A0 n0 c0) from KH7.out.cell 0)
            have FKH1 := Lib.hid (show w7.cell? ⟨w1.heap.size, 1, none⟩ = some (.slice A1 n1 c1) from KH7.out.cell 1)
            have FKR0 := Lib.hid (show w7.cell? ⟨w1.heap.size + 1, 0, none⟩ = some (.int .i64 r.gap) from KR7.out.cell 0)
            have FKR1 := Lib.hid (show w7.cell? ⟨w1.heap.size + 1, 1, none⟩ = some (.bool r.noMeet) from KR7.out.cell 1)
            have FKS0 := Lib.hid (show w7.cell? ⟨gs, 0, none⟩ = some (.int .i64 (r.gap + z)) from KS7.out.cell 0)
            have FKS1 := Lib.hid (show w7.cell? ⟨gs, 1, none⟩ = some (.bool true) from KS7.out.cell 1)
            have DD := Lib.hid ((Below.refl w7.heap.size w7).drew)
            have vFKH0 := FKH0.out
            have vFKH1 := FKH1.out
            have vFKR0 := FKR0.out
            have vFKR1 := FKR1.out
            have vFKS0 := FKS0.out
            have vFKS1 := FKS1.out
            have vGp0 := Gp0.out
            have vGp1 := Gp1.out
            have vGp2 := Gp2.out
            have vGp3 := Gp3.out
            have vGp4 := Gp4.out
            have vGq0 := Gq0.out
            have vGq1 := Gq1.out
            have vGq2 := Gq2.out
            have vGq3 := Gq3.out
            have vGq4 := Gq4.out
            refine wp_region_held_drew (S := (fun w' => w'.cell? ⟨w1.heap.size, 0, none⟩ = some (.slice A0 n0 c0) ∧ w'.cell? ⟨w1.heap.size, 1, none⟩ = some (.slice A1 n1 c1) ∧ w'.cell? ⟨w1.heap.size + 1, 0, none⟩ = some (.int .i64 r.gap) ∧ w'.cell? ⟨w1.heap.size + 1, 1, none⟩ = some (.bool r.noMeet) ∧ w'.cell? ⟨gs, 0, none⟩ = some (.int .i64 (r.gap + z)) ∧ w'.cell? ⟨gs, 1, none⟩ = some (.bool true) ∧ w'.cell? ⟨gl, ol + a * 5, none⟩ = some (.int .i64 p.ship) ∧ w'.cell? ⟨gl, ol + a * 5 + 1, none⟩ = some (.int .i64 p.segment) ∧ w'.cell? ⟨gl, ol + a * 5 + 2, none⟩ = some (.bool p.toward) ∧ w'.cell? ⟨gl, ol + a * 5 + 3, none⟩ = some (.int .i64 p.start) ∧ w'.cell? ⟨gl, ol + a * 5 + 4, none⟩ = some (.int .i64 p.stop) ∧ w'.cell? ⟨gl, ol + b * 5, none⟩ = some (.int .i64 q.ship) ∧ w'.cell? ⟨gl, ol + b * 5 + 1, none⟩ = some (.int .i64 q.segment) ∧ w'.cell? ⟨gl, ol + b * 5 + 2, none⟩ = some (.bool q.toward) ∧ w'.cell? ⟨gl, ol + b * 5 + 3, none⟩ = some (.int .i64 q.start) ∧ w'.cell? ⟨gl, ol + b * 5 + 4, none⟩ = some (.int .i64 q.stop) ∧ Hid (Below w7.heap.size w7 w'))) (by kernel_rfl) ?_ (fun hHeld => ?_)
            · (try dsimp only); go_keep
            refine wpAnyH_take (i := 0) (v := ?_) (by simp only [List.getElem?_toArray, List.getElem?_cons_zero]; rfl) (by kernel_rfl) (by kernel_rfl) (by kernel_rfl) (by exact fun _ _ _ h => h) (Or.inl ⟨by rfl, ?_⟩) (by assumption) ?_; rotate_left; focus (intro w hSw; (try dsimp only at hSw); first | (go_simp; done) | (go_simp; with_reducible rfl))
            try simp only [Act.put, List.setIfInBounds_toArray, List.set_cons_zero, List.set_cons_succ]
            refine wpAnyH_take (i := 1) (v := ?_) (by simp only [List.getElem?_toArray, List.getElem?_cons_succ, List.getElem?_cons_zero]; rfl) (by kernel_rfl) (by kernel_rfl) (by kernel_rfl) (by exact fun _ _ _ h => h) (Or.inl ⟨by rfl, ?_⟩) (by assumption) ?_; rotate_left; focus (intro w hSw; (try dsimp only at hSw); first | (go_simp; done) | (go_simp; with_reducible rfl))
            try simp only [Act.put, List.setIfInBounds_toArray, List.set_cons_zero, List.set_cons_succ]
            refine wpAnyH_take (i := 2) (v := ?_) (by simp only [List.getElem?_toArray, List.getElem?_cons_succ, List.getElem?_cons_zero]; rfl) (by kernel_rfl) (by kernel_rfl) (by kernel_rfl) (by exact fun _ _ _ h => h) (Or.inl ⟨by rfl, ?_⟩) (by assumption) ?_; rotate_left; focus (intro w hSw; (try dsimp only at hSw); first | (go_simp; done) | (go_simp; with_reducible rfl))
            try simp only [Act.put, List.setIfInBounds_toArray, List.set_cons_zero, List.set_cons_succ]
            refine wpAnyH_take (i := 3) (v := ?_) (by simp only [List.getElem?_toArray, List.getElem?_cons_succ, List.getElem?_cons_zero]; rfl) (by kernel_rfl) (by kernel_rfl) (by kernel_rfl) (by exact fun _ _ _ h => h) (Or.inl ⟨by rfl, ?_⟩) (by assumption) ?_; rotate_left; focus (intro w hSw; (try dsimp only at hSw); first | (go_simp; done) | (go_simp; with_reducible rfl))
            try simp only [Act.put, List.setIfInBounds_toArray, List.set_cons_zero, List.set_cons_succ]
            refine wpAnyH_take (i := 4) (v := ?_) (by simp only [List.getElem?_toArray, List.getElem?_cons_succ, List.getElem?_cons_zero]; rfl) (by kernel_rfl) (by kernel_rfl) (by kernel_rfl) (by exact fun _ _ _ h => h) (Or.inl ⟨by rfl, ?_⟩) (by assumption) ?_; rotate_left; focus (intro w hSw; (try dsimp only at hSw); first | (go_simp; done) | (go_simp; with_reducible rfl))
            try simp only [Act.put, List.setIfInBounds_toArray, List.set_cons_zero, List.set_cons_succ]
            refine wpAnyH_take (i := 5) (v := ?_) (by simp only [List.getElem?_toArray, List.getElem?_cons_succ, List.getElem?_cons_zero]; rfl) (by kernel_rfl) (by kernel_rfl) (by kernel_rfl) (by exact fun _ _ _ h => h) (Or.inl ⟨by rfl, ?_⟩) (by assumption) ?_; rotate_left; focus (intro w hSw; (try dsimp only at hSw); first | (go_simp; done) | (go_simp; with_reducible rfl))
            try simp only [Act.put, List.setIfInBounds_toArray, List.set_cons_zero, List.set_cons_succ]
            refine wpAnyH_take (i := 6) (v := ?_) (by simp only [List.getElem?_toArray, List.getElem?_cons_succ, List.getElem?_cons_zero]; rfl) (by kernel_rfl) (by kernel_rfl) (by kernel_rfl) (by exact fun _ _ _ h => h) (Or.inl ⟨by rfl, ?_⟩) (by assumption) ?_; rotate_left; focus (intro w hSw; (try dsimp only at hSw); first | (go_simp; done) | (go_simp; with_reducible rfl))
            try simp only [Act.put, List.setIfInBounds_toArray, List.set_cons_zero, List.set_cons_succ]
            refine wpAnyH_take (i := 7) (v := ?_) (by simp only [List.getElem?_toArray, List.getElem?_cons_succ, List.getElem?_cons_zero]; rfl) (by kernel_rfl) (by kernel_rfl) (by kernel_rfl) (by exact fun _ _ _ h => h) (Or.inl ⟨by rfl, ?_⟩) (by assumption) ?_; rotate_left; focus (intro w hSw; (try dsimp only at hSw); first | (go_simp; done) | (go_simp; with_reducible rfl))
            try simp only [Act.put, List.setIfInBounds_toArray, List.set_cons_zero, List.set_cons_succ]
            refine wpAnyH_take (i := 8) (v := ?_) (by simp only [List.getElem?_toArray, List.getElem?_cons_succ, List.getElem?_cons_zero]; rfl) (by kernel_rfl) (by kernel_rfl) (by kernel_rfl) (by exact fun _ _ _ h => h) (Or.inl ⟨by rfl, ?_⟩) (by assumption) ?_; rotate_left; focus (intro w hSw; (try dsimp only at hSw); first | (go_simp; done) | (go_simp; with_reducible rfl))
            try simp only [Act.put, List.setIfInBounds_toArray, List.set_cons_zero, List.set_cons_succ]
            refine wpAnyH_take (i := 9) (v := ?_) (by simp only [List.getElem?_toArray, List.getElem?_cons_succ, List.getElem?_cons_zero]; rfl) (by kernel_rfl) (by kernel_rfl) (by kernel_rfl) (by exact fun _ _ _ h => h) (Or.inl ⟨by rfl, ?_⟩) (by assumption) ?_; rotate_left; focus (intro w hSw; (try dsimp only at hSw); first | (go_simp; done) | (go_simp; with_reducible rfl))
            try simp only [Act.put, List.setIfInBounds_toArray, List.set_cons_zero, List.set_cons_succ]
            refine wpAnyH_take (i := 10) (v := ?_) (by simp only [List.getElem?_toArray, List.getElem?_cons_succ, List.getElem?_cons_zero]; rfl) (by kernel_rfl) (by kernel_rfl) (by kernel_rfl) (by exact fun _ _ _ h => h) (Or.inl ⟨by rfl, ?_⟩) (by assumption) ?_; rotate_left; focus (intro w hSw; (try dsimp only at hSw); first | (go_simp; done) | (go_simp; with_reducible rfl))
            try simp only [Act.put, List.setIfInBounds_toArray, List.set_cons_zero, List.set_cons_succ]
            refine wpAnyH_ready (rs := [11]) (by kernel_rfl) (by simp) ?_
            refine AllReadyH.cons rfl (fun K hK => ?_) AllReadyH.nil
            rw [if_pos (by rfl)]
            go_simp
            go_at_call 19
            have kB := hHeld.2.2.2.2.2.2.2.2.2.2.2.2.2.2.2.2
            refine (implConflictOf _ _ d r q p _ (RD7.out.below kB.out) NM.out WQ.out WP.out).mono ?_
            rw [HT2.out]
            rintro e wq11 ⟨rfl, hbk⟩
            have HBK := kB.out.trans (hbk.mono kB.out.size)
            have QS := Lib.hid (show wq11.cell? ⟨w1.heap.size, 0, none⟩ = some (.slice A0 n0 c0) ∧ wq11.cell? ⟨w1.heap.size, 1, none⟩ = some (.slice A1 n1 c1) ∧ wq11.cell? ⟨w1.heap.size + 1, 0, none⟩ = some (.int .i64 r.gap) ∧ wq11.cell? ⟨w1.heap.size + 1, 1, none⟩ = some (.bool r.noMeet) ∧ wq11.cell? ⟨gs, 0, none⟩ = some (.int .i64 (r.gap + z)) ∧ wq11.cell? ⟨gs, 1, none⟩ = some (.bool true) ∧ wq11.cell? ⟨gl, ol + a * 5, none⟩ = some (.int .i64 p.ship) ∧ wq11.cell? ⟨gl, ol + a * 5 + 1, none⟩ = some (.int .i64 p.segment) ∧ wq11.cell? ⟨gl, ol + a * 5 + 2, none⟩ = some (.bool p.toward) ∧ wq11.cell? ⟨gl, ol + a * 5 + 3, none⟩ = some (.int .i64 p.start) ∧ wq11.cell? ⟨gl, ol + a * 5 + 4, none⟩ = some (.int .i64 p.stop) ∧ wq11.cell? ⟨gl, ol + b * 5, none⟩ = some (.int .i64 q.ship) ∧ wq11.cell? ⟨gl, ol + b * 5 + 1, none⟩ = some (.int .i64 q.segment) ∧ wq11.cell? ⟨gl, ol + b * 5 + 2, none⟩ = some (.bool q.toward) ∧ wq11.cell? ⟨gl, ol + b * 5 + 3, none⟩ = some (.int .i64 q.start) ∧ wq11.cell? ⟨gl, ol + b * 5 + 4, none⟩ = some (.int .i64 q.stop) ∧ Hid (Below w7.heap.size w7 wq11) from ⟨cell_onV FKH0.out HBK, cell_onV FKH1.out HBK, cell_onV FKR0.out HBK, cell_onV FKR1.out HBK, cell_onV FKS0.out HBK, cell_onV FKS1.out HBK, cell_onV Gp0.out HBK, cell_onV Gp1.out HBK, cell_onV Gp2.out HBK, cell_onV Gp3.out HBK, cell_onV Gp4.out HBK, cell_onV Gq0.out HBK, cell_onV Gq1.out HBK, cell_onV Gq2.out HBK, cell_onV Gq3.out HBK, cell_onV Gq4.out HBK, Lib.hid HBK⟩)
            clear hbk kB hHeld HBK
            go_simp
            refine hK.out _ _ ?_ (fun hHeld => ?_)
            · (try dsimp only); exact QS.out
            clear hK K
            try simp only [Act.put, List.setIfInBounds_toArray, List.set_cons_zero, List.set_cons_succ]
            refine wpAnyH_take (i := 12) (v := ?_) (by simp only [List.getElem?_toArray, List.getElem?_cons_succ, List.getElem?_cons_zero]; rfl) (by kernel_rfl) (by kernel_rfl) (by kernel_rfl) (by exact fun _ _ _ h => h) (Or.inl ⟨by rfl, ?_⟩) (by assumption) ?_; rotate_left; focus (intro w hSw; (try dsimp only at hSw); first | (go_simp; done) | (go_simp; with_reducible rfl))
            try simp only [Act.put, List.setIfInBounds_toArray, List.set_cons_zero, List.set_cons_succ]
            refine wpAnyH_take (i := 13) (v := ?_) (by simp only [List.getElem?_toArray, List.getElem?_cons_succ, List.getElem?_cons_zero]; rfl) (by kernel_rfl) (by kernel_rfl) (by kernel_rfl) (by exact fun _ _ _ h => h) (Or.inl ⟨by rfl, ?_⟩) (by assumption) ?_; rotate_left; focus (intro w hSw; (try dsimp only at hSw); first | (go_simp; done) | (go_simp; with_reducible rfl))
            try simp only [Act.put, List.setIfInBounds_toArray, List.set_cons_zero, List.set_cons_succ]
            refine wpAnyH_take (i := 14) (v := ?_) (by simp only [List.getElem?_toArray, List.getElem?_cons_succ, List.getElem?_cons_zero]; rfl) (by kernel_rfl) (by kernel_rfl) (by kernel_rfl) (by exact fun _ _ _ h => h) (Or.inl ⟨by rfl, ?_⟩) (by assumption) ?_; rotate_left; focus (intro w hSw; (try dsimp only at hSw); first | (go_simp; done) | (go_simp; with_reducible rfl))
            try simp only [Act.put, List.setIfInBounds_toArray, List.set_cons_zero, List.set_cons_succ]
            refine wpAnyH_take (i := 15) (v := ?_) (by simp only [List.getElem?_toArray, List.getElem?_cons_succ, List.getElem?_cons_zero]; rfl) (by kernel_rfl) (by kernel_rfl) (by kernel_rfl) (by exact fun _ _ _ h => h) (Or.inl ⟨by rfl, ?_⟩) (by assumption) ?_; rotate_left; focus (intro w hSw; (try dsimp only at hSw); first | (go_simp; done) | (go_simp; with_reducible rfl))
            try simp only [Act.put, List.setIfInBounds_toArray, List.set_cons_zero, List.set_cons_succ]
            refine wpAnyH_take (i := 16) (v := ?_) (by simp only [List.getElem?_toArray, List.getElem?_cons_succ, List.getElem?_cons_zero]; rfl) (by kernel_rfl) (by kernel_rfl) (by kernel_rfl) (by exact fun _ _ _ h => h) (Or.inl ⟨by rfl, ?_⟩) (by assumption) ?_; rotate_left; focus (intro w hSw; (try dsimp only at hSw); first | (go_simp; done) | (go_simp; with_reducible rfl))
            try simp only [Act.put, List.setIfInBounds_toArray, List.set_cons_zero, List.set_cons_succ]
            refine wpAnyH_take (i := 17) (v := undef) (by simp only [List.getElem?_toArray, List.getElem?_cons_succ, List.getElem?_cons_zero]; rfl) (by kernel_rfl) (by kernel_rfl) (by kernel_rfl) (by exact fun _ _ _ h => h) (Or.inr ⟨by rfl, rfl⟩) (by assumption) ?_
            try simp only [Act.put, List.setIfInBounds_toArray, List.set_cons_zero, List.set_cons_succ]
            refine wpAnyH_take (i := 18) (v := undef) (by simp only [List.getElem?_toArray, List.getElem?_cons_succ, List.getElem?_cons_zero]; rfl) (by kernel_rfl) (by kernel_rfl) (by kernel_rfl) (by exact fun _ _ _ h => h) (Or.inr ⟨by rfl, rfl⟩) (by assumption) ?_
            try simp only [Act.put, List.setIfInBounds_toArray, List.set_cons_zero, List.set_cons_succ]
            refine wpAnyH_take (i := 19) (v := undef) (by simp only [List.getElem?_toArray, List.getElem?_cons_succ, List.getElem?_cons_zero]; rfl) (by kernel_rfl) (by kernel_rfl) (by kernel_rfl) (by exact fun _ _ _ h => h) (Or.inr ⟨by rfl, rfl⟩) (by assumption) ?_
            try simp only [Act.put, List.setIfInBounds_toArray, List.set_cons_zero, List.set_cons_succ]
            refine wpAnyH_take (i := 20) (v := undef) (by simp only [List.getElem?_toArray, List.getElem?_cons_succ, List.getElem?_cons_zero]; rfl) (by kernel_rfl) (by kernel_rfl) (by kernel_rfl) (by exact fun _ _ _ h => h) (Or.inr ⟨by rfl, rfl⟩) (by assumption) ?_
            try simp only [Act.put, List.setIfInBounds_toArray, List.set_cons_zero, List.set_cons_succ]
            refine wpAnyH_take (i := 21) (v := undef) (by simp only [List.getElem?_toArray, List.getElem?_cons_succ, List.getElem?_cons_zero]; rfl) (by kernel_rfl) (by kernel_rfl) (by kernel_rfl) (by exact fun _ _ _ h => h) (Or.inr ⟨by rfl, rfl⟩) (by assumption) ?_
            try simp only [Act.put, List.setIfInBounds_toArray, List.set_cons_zero, List.set_cons_succ]
            refine wpAnyH_take (i := 22) (v := undef) (by simp only [List.getElem?_toArray, List.getElem?_cons_succ, List.getElem?_cons_zero]; rfl) (by kernel_rfl) (by kernel_rfl) (by kernel_rfl) (by exact fun _ _ _ h => h) (Or.inr ⟨by rfl, rfl⟩) (by assumption) ?_
            try simp only [Act.put, List.setIfInBounds_toArray, List.set_cons_zero, List.set_cons_succ]
            refine wpAnyH_take (i := 23) (v := undef) (by simp only [List.getElem?_toArray, List.getElem?_cons_succ, List.getElem?_cons_zero]; rfl) (by kernel_rfl) (by kernel_rfl) (by kernel_rfl) (by exact fun _ _ _ h => h) (Or.inr ⟨by rfl, rfl⟩) (by assumption) ?_
            try simp only [Act.put, List.setIfInBounds_toArray, List.set_cons_zero, List.set_cons_succ]
            refine wpAnyH_take (i := 24) (v := undef) (by simp only [List.getElem?_toArray, List.getElem?_cons_succ, List.getElem?_cons_zero]; rfl) (by kernel_rfl) (by kernel_rfl) (by kernel_rfl) (by exact fun _ _ _ h => h) (Or.inr ⟨by rfl, rfl⟩) (by assumption) ?_
            try simp only [Act.put, List.setIfInBounds_toArray, List.set_cons_zero, List.set_cons_succ]
            refine wpAnyH_take (i := 25) (v := undef) (by simp only [List.getElem?_toArray, List.getElem?_cons_succ, List.getElem?_cons_zero]; rfl) (by kernel_rfl) (by kernel_rfl) (by kernel_rfl) (by exact fun _ _ _ h => h) (Or.inr ⟨by rfl, rfl⟩) (by assumption) ?_
            try simp only [Act.put, List.setIfInBounds_toArray, List.set_cons_zero, List.set_cons_succ]
            refine wpAnyH_take (i := 26) (v := undef) (by simp only [List.getElem?_toArray, List.getElem?_cons_succ, List.getElem?_cons_zero]; rfl) (by kernel_rfl) (by kernel_rfl) (by kernel_rfl) (by exact fun _ _ _ h => h) (Or.inr ⟨by rfl, rfl⟩) (by assumption) ?_
            try simp only [Act.put, List.setIfInBounds_toArray, List.set_cons_zero, List.set_cons_succ]
            refine wpAnyH_take (i := 27) (v := undef) (by simp only [List.getElem?_toArray, List.getElem?_cons_succ, List.getElem?_cons_zero]; rfl) (by kernel_rfl) (by kernel_rfl) (by kernel_rfl) (by exact fun _ _ _ h => h) (Or.inr ⟨by rfl, rfl⟩) (by assumption) ?_
            try simp only [Act.put, List.setIfInBounds_toArray, List.set_cons_zero, List.set_cons_succ]
            refine wpAnyH_take (i := 28) (v := undef) (by simp only [List.getElem?_toArray, List.getElem?_cons_succ, List.getElem?_cons_zero]; rfl) (by kernel_rfl) (by kernel_rfl) (by kernel_rfl) (by exact fun _ _ _ h => h) (Or.inr ⟨by rfl, rfl⟩) (by assumption) ?_
            try simp only [Act.put, List.setIfInBounds_toArray, List.set_cons_zero, List.set_cons_succ]
            refine wpAnyH_take (i := 29) (v := ?_) (by simp only [List.getElem?_toArray, List.getElem?_cons_succ, List.getElem?_cons_zero]; rfl) (by kernel_rfl) (by kernel_rfl) (by kernel_rfl) (by exact fun _ _ _ h => h) (Or.inl ⟨by rfl, ?_⟩) (by assumption) ?_; rotate_left; focus (intro w hSw; (try dsimp only at hSw); first | (go_simp; done) | (go_simp; with_reducible rfl))
            try simp only [Act.put, List.setIfInBounds_toArray, List.set_cons_zero, List.set_cons_succ]
            refine wpAnyH_take (i := 30) (v := ?_) (by simp only [List.getElem?_toArray, List.getElem?_cons_succ, List.getElem?_cons_zero]; rfl) (by kernel_rfl) (by kernel_rfl) (by kernel_rfl) (by exact fun _ _ _ h => h) (Or.inl ⟨by rfl, ?_⟩) (by assumption) ?_; rotate_left; focus (intro w hSw; (try dsimp only at hSw); first | (go_simp; done) | (go_simp; with_reducible rfl))
            try simp only [Act.put, List.setIfInBounds_toArray, List.set_cons_zero, List.set_cons_succ]
            refine wpAnyH_take (i := 31) (v := ?_) (by simp only [List.getElem?_toArray, List.getElem?_cons_succ, List.getElem?_cons_zero]; rfl) (by kernel_rfl) (by kernel_rfl) (by kernel_rfl) (by exact fun _ _ _ h => h) (Or.inl ⟨by rfl, ?_⟩) (by assumption) ?_; rotate_left; focus (intro w hSw; (try dsimp only at hSw); first | (go_simp; done) | (go_simp; with_reducible rfl))
            try simp only [Act.put, List.setIfInBounds_toArray, List.set_cons_zero, List.set_cons_succ]
            refine wpAnyH_take (i := 32) (v := ?_) (by simp only [List.getElem?_toArray, List.getElem?_cons_succ, List.getElem?_cons_zero]; rfl) (by kernel_rfl) (by kernel_rfl) (by kernel_rfl) (by exact fun _ _ _ h => h) (Or.inl ⟨by rfl, ?_⟩) (by assumption) ?_; rotate_left; focus (intro w hSw; (try dsimp only at hSw); first | (go_simp; done) | (go_simp; with_reducible rfl))
            try simp only [Act.put, List.setIfInBounds_toArray, List.set_cons_zero, List.set_cons_succ]
            refine wpAnyH_take (i := 33) (v := ?_) (by simp only [List.getElem?_toArray, List.getElem?_cons_succ, List.getElem?_cons_zero]; rfl) (by kernel_rfl) (by kernel_rfl) (by kernel_rfl) (by exact fun _ _ _ h => h) (Or.inl ⟨by rfl, ?_⟩) (by assumption) ?_; rotate_left; focus (intro w hSw; (try dsimp only at hSw); first | (go_simp; done) | (go_simp; with_reducible rfl))
            try simp only [Act.put, List.setIfInBounds_toArray, List.set_cons_zero, List.set_cons_succ]
            refine wpAnyH_take (i := 34) (v := ?_) (by simp only [List.getElem?_toArray, List.getElem?_cons_succ, List.getElem?_cons_zero]; rfl) (by kernel_rfl) (by kernel_rfl) (by kernel_rfl) (by exact fun _ _ _ h => h) (Or.inl ⟨by rfl, ?_⟩) (by assumption) ?_; rotate_left; focus (intro w hSw; (try dsimp only at hSw); first | (go_simp; done) | (go_simp; with_reducible rfl))
            try simp only [Act.put, List.setIfInBounds_toArray, List.set_cons_zero, List.set_cons_succ]
            refine wpAnyH_take (i := 35) (v := ?_) (by simp only [List.getElem?_toArray, List.getElem?_cons_succ, List.getElem?_cons_zero]; rfl) (by kernel_rfl) (by kernel_rfl) (by kernel_rfl) (by exact fun _ _ _ h => h) (Or.inl ⟨by rfl, ?_⟩) (by assumption) ?_; rotate_left; focus (intro w hSw; (try dsimp only at hSw); first | (go_simp; done) | (go_simp; with_reducible rfl))
            try simp only [Act.put, List.setIfInBounds_toArray, List.set_cons_zero, List.set_cons_succ]
            refine wpAnyH_take (i := 36) (v := ?_) (by simp only [List.getElem?_toArray, List.getElem?_cons_succ, List.getElem?_cons_zero]; rfl) (by kernel_rfl) (by kernel_rfl) (by kernel_rfl) (by exact fun _ _ _ h => h) (Or.inl ⟨by rfl, ?_⟩) (by assumption) ?_; rotate_left; focus (intro w hSw; (try dsimp only at hSw); first | (go_simp; done) | (go_simp; with_reducible rfl))
            try simp only [Act.put, List.setIfInBounds_toArray, List.set_cons_zero, List.set_cons_succ]
            refine wpAnyH_take (i := 37) (v := ?_) (by simp only [List.getElem?_toArray, List.getElem?_cons_succ, List.getElem?_cons_zero]; rfl) (by kernel_rfl) (by kernel_rfl) (by kernel_rfl) (by exact fun _ _ _ h => h) (Or.inl ⟨by rfl, ?_⟩) (by assumption) ?_; rotate_left; focus (intro w hSw; (try dsimp only at hSw); first | (go_simp; done) | (go_simp; with_reducible rfl))
            try simp only [Act.put, List.setIfInBounds_toArray, List.set_cons_zero, List.set_cons_succ]
            refine wpAnyH_take (i := 38) (v := ?_) (by simp only [List.getElem?_toArray, List.getElem?_cons_succ, List.getElem?_cons_zero]; rfl) (by kernel_rfl) (by kernel_rfl) (by kernel_rfl) (by exact fun _ _ _ h => h) (Or.inl ⟨by rfl, ?_⟩) (by assumption) ?_; rotate_left; focus (intro w hSw; (try dsimp only at hSw); first | (go_simp; done) | (go_simp; with_reducible rfl))
            try simp only [Act.put, List.setIfInBounds_toArray, List.set_cons_zero, List.set_cons_succ]
            refine wpAnyH_take (i := 39) (v := ?_) (by simp only [List.getElem?_toArray, List.getElem?_cons_succ, List.getElem?_cons_zero]; rfl) (by kernel_rfl) (by kernel_rfl) (by kernel_rfl) (by exact fun _ _ _ h => h) (Or.inl ⟨by rfl, ?_⟩) (by assumption) ?_; rotate_left; focus (intro w hSw; (try dsimp only at hSw); first | (go_simp; done) | (go_simp; with_reducible rfl))
            try simp only [Act.put, List.setIfInBounds_toArray, List.set_cons_zero, List.set_cons_succ]
            refine wpAnyH_take (i := 41) (v := ?_) (by simp only [List.getElem?_toArray, List.getElem?_cons_succ, List.getElem?_cons_zero]; rfl) (by kernel_rfl) (by kernel_rfl) (by kernel_rfl) (by exact fun _ _ _ h => h) (Or.inl ⟨by rfl, ?_⟩) (by assumption) ?_; rotate_left; focus (intro w hSw; (try dsimp only at hSw); first | (go_simp; done) | (go_simp; with_reducible rfl))
            try simp only [Act.put, List.setIfInBounds_toArray, List.set_cons_zero, List.set_cons_succ]
            refine wpAnyH_take (i := 42) (v := ?_) (by simp only [List.getElem?_toArray, List.getElem?_cons_succ, List.getElem?_cons_zero]; rfl) (by kernel_rfl) (by kernel_rfl) (by kernel_rfl) (by exact fun _ _ _ h => h) (Or.inl ⟨by rfl, ?_⟩) (by assumption) ?_; rotate_left; focus (intro w hSw; (try dsimp only at hSw); first | (go_simp; done) | (go_simp; with_reducible rfl))
            try simp only [Act.put, List.setIfInBounds_toArray, List.set_cons_zero, List.set_cons_succ]
            refine wpAnyH_take (i := 43) (v := ?_) (by simp only [List.getElem?_toArray, List.getElem?_cons_succ, List.getElem?_cons_zero]; rfl) (by kernel_rfl) (by kernel_rfl) (by kernel_rfl) (by exact fun _ _ _ h => h) (Or.inl ⟨by rfl, ?_⟩) (by assumption) ?_; rotate_left; focus (intro w hSw; (try dsimp only at hSw); first | (go_simp; done) | (go_simp; with_reducible rfl))
            try simp only [Act.put, List.setIfInBounds_toArray, List.set_cons_zero, List.set_cons_succ]
            refine wpAnyH_take (i := 44) (v := ?_) (by simp only [List.getElem?_toArray, List.getElem?_cons_succ, List.getElem?_cons_zero]; rfl) (by kernel_rfl) (by kernel_rfl) (by kernel_rfl) (by exact fun _ _ _ h => h) (Or.inl ⟨by rfl, ?_⟩) (by assumption) ?_; rotate_left; focus (intro w hSw; (try dsimp only at hSw); first | (go_simp; done) | (go_simp; with_reducible rfl))
            try simp only [Act.put, List.setIfInBounds_toArray, List.set_cons_zero, List.set_cons_succ]
            refine wpAnyH_take (i := 45) (v := ?_) (by simp only [List.getElem?_toArray, List.getElem?_cons_succ, List.getElem?_cons_zero]; rfl) (by kernel_rfl) (by kernel_rfl) (by kernel_rfl) (by exact fun _ _ _ h => h) (Or.inl ⟨by rfl, ?_⟩) (by assumption) ?_; rotate_left; focus (intro w hSw; (try dsimp only at hSw); first | (go_simp; done) | (go_simp; with_reducible rfl))
            try simp only [Act.put, List.setIfInBounds_toArray, List.set_cons_zero, List.set_cons_succ]
            refine wpAnyH_take (i := 46) (v := ?_) (by simp only [List.getElem?_toArray, List.getElem?_cons_succ, List.getElem?_cons_zero]; rfl) (by kernel_rfl) (by kernel_rfl) (by kernel_rfl) (by exact fun _ _ _ h => h) (Or.inl ⟨by rfl, ?_⟩) (by assumption) ?_; rotate_left; focus (intro w hSw; (try dsimp only at hSw); first | (go_simp; done) | (go_simp; with_reducible rfl))
            try simp only [Act.put, List.setIfInBounds_toArray, List.set_cons_zero, List.set_cons_succ]
            refine wpAnyH_take (i := 47) (v := ?_) (by simp only [List.getElem?_toArray, List.getElem?_cons_succ, List.getElem?_cons_zero]; rfl) (by kernel_rfl) (by kernel_rfl) (by kernel_rfl) (by exact fun _ _ _ h => h) (Or.inl ⟨by rfl, ?_⟩) (by assumption) ?_; rotate_left; focus (intro w hSw; (try dsimp only at hSw); first | (go_simp; done) | (go_simp; with_reducible rfl))
            try simp only [Act.put, List.setIfInBounds_toArray, List.set_cons_zero, List.set_cons_succ]
            refine wpAnyH_take (i := 48) (v := ?_) (by simp only [List.getElem?_toArray, List.getElem?_cons_succ, List.getElem?_cons_zero]; rfl) (by kernel_rfl) (by kernel_rfl) (by kernel_rfl) (by exact fun _ _ _ h => h) (Or.inl ⟨by rfl, ?_⟩) (by assumption) ?_; rotate_left; focus (intro w hSw; (try dsimp only at hSw); first | (go_simp; done) | (go_simp; with_reducible rfl))
            try simp only [Act.put, List.setIfInBounds_toArray, List.set_cons_zero, List.set_cons_succ]
            refine wpAnyH_ready (rs := [40]) (by kernel_rfl) (by simp) ?_
            refine AllReadyH.cons rfl (fun K hK => ?_) AllReadyH.nil
            rw [if_pos (by rfl)]
            go_simp
            go_at_call 20
            have kB := hHeld.2.2.2.2.2.2.2.2.2.2.2.2.2.2.2.2
            refine (implOverlaps p q _).mono ?_
            rw [HO.out]
            rintro e wq40 ⟨rfl, hbk⟩
            have HBK := kB.out.trans (hbk.mono kB.out.size)
            have QS := Lib.hid (show wq40.cell? ⟨w1.heap.size, 0, none⟩ = some (.slice A0 n0 c0) ∧ wq40.cell? ⟨w1.heap.size, 1, none⟩ = some (.slice A1 n1 c1) ∧ wq40.cell? ⟨w1.heap.size + 1, 0, none⟩ = some (.int .i64 r.gap) ∧ wq40.cell? ⟨w1.heap.size + 1, 1, none⟩ = some (.bool r.noMeet) ∧ wq40.cell? ⟨gs, 0, none⟩ = some (.int .i64 (r.gap + z)) ∧ wq40.cell? ⟨gs, 1, none⟩ = some (.bool true) ∧ wq40.cell? ⟨gl, ol + a * 5, none⟩ = some (.int .i64 p.ship) ∧ wq40.cell? ⟨gl, ol + a * 5 + 1, none⟩ = some (.int .i64 p.segment) ∧ wq40.cell? ⟨gl, ol + a * 5 + 2, none⟩ = some (.bool p.toward) ∧ wq40.cell? ⟨gl, ol + a * 5 + 3, none⟩ = some (.int .i64 p.start) ∧ wq40.cell? ⟨gl, ol + a * 5 + 4, none⟩ = some (.int .i64 p.stop) ∧ wq40.cell? ⟨gl, ol + b * 5, none⟩ = some (.int .i64 q.ship) ∧ wq40.cell? ⟨gl, ol + b * 5 + 1, none⟩ = some (.int .i64 q.segment) ∧ wq40.cell? ⟨gl, ol + b * 5 + 2, none⟩ = some (.bool q.toward) ∧ wq40.cell? ⟨gl, ol + b * 5 + 3, none⟩ = some (.int .i64 q.start) ∧ wq40.cell? ⟨gl, ol + b * 5 + 4, none⟩ = some (.int .i64 q.stop) ∧ Hid (Below w7.heap.size w7 wq40) from ⟨cell_onV FKH0.out HBK, cell_onV FKH1.out HBK, cell_onV FKR0.out HBK, cell_onV FKR1.out HBK, cell_onV FKS0.out HBK, cell_onV FKS1.out HBK, cell_onV Gp0.out HBK, cell_onV Gp1.out HBK, cell_onV Gp2.out HBK, cell_onV Gp3.out HBK, cell_onV Gp4.out HBK, cell_onV Gq0.out HBK, cell_onV Gq1.out HBK, cell_onV Gq2.out HBK, cell_onV Gq3.out HBK, cell_onV Gq4.out HBK, Lib.hid HBK⟩)
            clear hbk kB hHeld HBK
            go_simp
            refine hK.out _ _ ?_ (fun hHeld => ?_)
            · (try dsimp only); exact QS.out
            clear hK K
            try simp only [Act.put, List.setIfInBounds_toArray, List.set_cons_zero, List.set_cons_succ]
            refine wpAnyH_ready (rs := [49]) (by kernel_rfl) (by simp) ?_
            refine AllReadyH.cons rfl (fun K hK => ?_) AllReadyH.nil
            rw [if_pos (by rfl)]
            go_simp
            go_at_call 20
            have kB := hHeld.2.2.2.2.2.2.2.2.2.2.2.2.2.2.2.2
            refine (implOverlaps q p _).mono ?_
            rw [HO2.out]
            rintro e wq49 ⟨rfl, hbk⟩
            have HBK := kB.out.trans (hbk.mono kB.out.size)
            have QS := Lib.hid (show wq49.cell? ⟨w1.heap.size, 0, none⟩ = some (.slice A0 n0 c0) ∧ wq49.cell? ⟨w1.heap.size, 1, none⟩ = some (.slice A1 n1 c1) ∧ wq49.cell? ⟨w1.heap.size + 1, 0, none⟩ = some (.int .i64 r.gap) ∧ wq49.cell? ⟨w1.heap.size + 1, 1, none⟩ = some (.bool r.noMeet) ∧ wq49.cell? ⟨gs, 0, none⟩ = some (.int .i64 (r.gap + z)) ∧ wq49.cell? ⟨gs, 1, none⟩ = some (.bool true) ∧ wq49.cell? ⟨gl, ol + a * 5, none⟩ = some (.int .i64 p.ship) ∧ wq49.cell? ⟨gl, ol + a * 5 + 1, none⟩ = some (.int .i64 p.segment) ∧ wq49.cell? ⟨gl, ol + a * 5 + 2, none⟩ = some (.bool p.toward) ∧ wq49.cell? ⟨gl, ol + a * 5 + 3, none⟩ = some (.int .i64 p.start) ∧ wq49.cell? ⟨gl, ol + a * 5 + 4, none⟩ = some (.int .i64 p.stop) ∧ wq49.cell? ⟨gl, ol + b * 5, none⟩ = some (.int .i64 q.ship) ∧ wq49.cell? ⟨gl, ol + b * 5 + 1, none⟩ = some (.int .i64 q.segment) ∧ wq49.cell? ⟨gl, ol + b * 5 + 2, none⟩ = some (.bool q.toward) ∧ wq49.cell? ⟨gl, ol + b * 5 + 3, none⟩ = some (.int .i64 q.start) ∧ wq49.cell? ⟨gl, ol + b * 5 + 4, none⟩ = some (.int .i64 q.stop) ∧ Hid (Below w7.heap.size w7 wq49) from ⟨cell_onV FKH0.out HBK, cell_onV FKH1.out HBK, cell_onV FKR0.out HBK, cell_onV FKR1.out HBK, cell_onV FKS0.out HBK, cell_onV FKS1.out HBK, cell_onV Gp0.out HBK, cell_onV Gp1.out HBK, cell_onV Gp2.out HBK, cell_onV Gp3.out HBK, cell_onV Gp4.out HBK, cell_onV Gq0.out HBK, cell_onV Gq1.out HBK, cell_onV Gq2.out HBK, cell_onV Gq3.out HBK, cell_onV Gq4.out HBK, Lib.hid HBK⟩)
            clear hbk kB hHeld HBK
            go_simp
            refine hK.out _ _ ?_ (fun hHeld => ?_)
            · (try dsimp only); exact QS.out
            clear hK K
            try simp only [Act.put, List.setIfInBounds_toArray, List.set_cons_zero, List.set_cons_succ]
            refine wpAnyH_take (i := 50) (v := ?_) (by simp only [List.getElem?_toArray, List.getElem?_cons_succ, List.getElem?_cons_zero]; rfl) (by kernel_rfl) (by kernel_rfl) (by kernel_rfl) (by exact fun _ _ _ h => h) (Or.inl ⟨by rfl, ?_⟩) (by assumption) ?_; rotate_left; focus (intro w hSw; (try dsimp only at hSw); first | (go_simp; done) | (go_simp; with_reducible rfl))
            try simp only [Act.put, List.setIfInBounds_toArray, List.set_cons_zero, List.set_cons_succ]
            refine wpAnyH_take (i := 51) (v := ?_) (by simp only [List.getElem?_toArray, List.getElem?_cons_succ, List.getElem?_cons_zero]; rfl) (by kernel_rfl) (by kernel_rfl) (by kernel_rfl) (by exact fun _ _ _ h => h) (Or.inl ⟨by rfl, ?_⟩) (by assumption) ?_; rotate_left; focus (intro w hSw; (try dsimp only at hSw); first | (go_simp; done) | (go_simp; with_reducible rfl))
            try simp only [Act.put, List.setIfInBounds_toArray, List.set_cons_zero, List.set_cons_succ]
            refine wpAnyH_done (by kernel_rfl) ?_ _
            have hb8 := hHeld.2.2.2.2.2.2.2.2.2.2.2.2.2.2.2.2.out
            clear hHeld DD vFKH0 FKH0 vFKH1 FKH1 vFKR0 FKR0 vFKR1 FKR1 vFKS0 FKS0 vFKS1 FKS1 vGp0 vGp1 vGp2 vGp3 vGp4 vGq0 vGq1 vGq2 vGq3 vGq4
            obtain ⟨w8, hw8⟩ : ∃ X, X = wq49 := ⟨_, rfl⟩
            rw [← hw8] at hb8 ⊢
            clear hw8
            have hbo8 := Lib.hid (hbo7.out.trans (hb8.mono hbo7.out.size))
            clear hb8
            go_upto_region 17 with fail
            have DD := Lib.hid ((Below.refl w8.heap.size w8).drew)
            refine wp_region_held_drew (S := (fun w' => Hid (Below w8.heap.size w8 w'))) (by kernel_rfl) ?_ (fun hHeld => ?_)
            · (try dsimp only); go_keep
            refine wpAnyH_take (i := 0) (v := ?_) (by simp only [List.getElem?_toArray, List.getElem?_cons_zero]; rfl) (by kernel_rfl) (by kernel_rfl) (by kernel_rfl) (by exact fun _ _ _ h => h) (Or.inl ⟨by rfl, ?_⟩) (by assumption) ?_; rotate_left; focus (intro w hSw; (try dsimp only at hSw); first | (go_simp; done) | (go_simp; with_reducible rfl))
            try simp only [Act.put, List.setIfInBounds_toArray, List.set_cons_zero, List.set_cons_succ]
            refine wpAnyH_take (i := 1) (v := ?_) (by simp only [List.getElem?_toArray, List.getElem?_cons_succ, List.getElem?_cons_zero]; rfl) (by kernel_rfl) (by kernel_rfl) (by kernel_rfl) (by exact fun _ _ _ h => h) (Or.inl ⟨by rfl, ?_⟩) (by assumption) ?_; rotate_left; focus (intro w hSw; (try dsimp only at hSw); first | (go_simp; done) | (go_simp; with_reducible rfl))
            try simp only [Act.put, List.setIfInBounds_toArray, List.set_cons_zero, List.set_cons_succ]
            refine wpAnyH_take (i := 2) (v := ?_) (by simp only [List.getElem?_toArray, List.getElem?_cons_succ, List.getElem?_cons_zero]; rfl) (by kernel_rfl) (by kernel_rfl) (by kernel_rfl) (by exact fun _ _ _ h => h) (Or.inl ⟨by rfl, ?_⟩) (by assumption) ?_; rotate_left; focus (intro w hSw; (try dsimp only at hSw); first | (go_simp; done) | (go_simp; with_reducible rfl))
            try simp only [Act.put, List.setIfInBounds_toArray, List.set_cons_zero, List.set_cons_succ]
            refine wpAnyH_take (i := 3) (v := undef) (by simp only [List.getElem?_toArray, List.getElem?_cons_succ, List.getElem?_cons_zero]; rfl) (by kernel_rfl) (by kernel_rfl) (by kernel_rfl) (by exact fun _ _ _ h => h) (Or.inr ⟨by rfl, rfl⟩) (by assumption) ?_
            try simp only [Act.put, List.setIfInBounds_toArray, List.set_cons_zero, List.set_cons_succ]
            refine wpAnyH_take (i := 4) (v := undef) (by simp only [List.getElem?_toArray, List.getElem?_cons_succ, List.getElem?_cons_zero]; rfl) (by kernel_rfl) (by kernel_rfl) (by kernel_rfl) (by exact fun _ _ _ h => h) (Or.inr ⟨by rfl, rfl⟩) (by assumption) ?_
            try simp only [Act.put, List.setIfInBounds_toArray, List.set_cons_zero, List.set_cons_succ]
            refine wpAnyH_take (i := 5) (v := undef) (by simp only [List.getElem?_toArray, List.getElem?_cons_succ, List.getElem?_cons_zero]; rfl) (by kernel_rfl) (by kernel_rfl) (by kernel_rfl) (by exact fun _ _ _ h => h) (Or.inr ⟨by rfl, rfl⟩) (by assumption) ?_
            try simp only [Act.put, List.setIfInBounds_toArray, List.set_cons_zero, List.set_cons_succ]
            refine wpAnyH_take (i := 6) (v := undef) (by simp only [List.getElem?_toArray, List.getElem?_cons_succ, List.getElem?_cons_zero]; rfl) (by kernel_rfl) (by kernel_rfl) (by kernel_rfl) (by exact fun _ _ _ h => h) (Or.inr ⟨by rfl, rfl⟩) (by assumption) ?_
            try simp only [Act.put, List.setIfInBounds_toArray, List.set_cons_zero, List.set_cons_succ]
            refine wpAnyH_take (i := 7) (v := undef) (by simp only [List.getElem?_toArray, List.getElem?_cons_succ, List.getElem?_cons_zero]; rfl) (by kernel_rfl) (by kernel_rfl) (by kernel_rfl) (by exact fun _ _ _ h => h) (Or.inr ⟨by rfl, rfl⟩) (by assumption) ?_
            try simp only [Act.put, List.setIfInBounds_toArray, List.set_cons_zero, List.set_cons_succ]
            refine wpAnyH_take (i := 8) (v := undef) (by simp only [List.getElem?_toArray, List.getElem?_cons_succ, List.getElem?_cons_zero]; rfl) (by kernel_rfl) (by kernel_rfl) (by kernel_rfl) (by exact fun _ _ _ h => h) (Or.inr ⟨by rfl, rfl⟩) (by assumption) ?_
            try simp only [Act.put, List.setIfInBounds_toArray, List.set_cons_zero, List.set_cons_succ]
            refine wpAnyH_take (i := 9) (v := undef) (by simp only [List.getElem?_toArray, List.getElem?_cons_succ, List.getElem?_cons_zero]; rfl) (by kernel_rfl) (by kernel_rfl) (by kernel_rfl) (by exact fun _ _ _ h => h) (Or.inr ⟨by rfl, rfl⟩) (by assumption) ?_
            try simp only [Act.put, List.setIfInBounds_toArray, List.set_cons_zero, List.set_cons_succ]
            refine wpAnyH_take (i := 10) (v := undef) (by simp only [List.getElem?_toArray, List.getElem?_cons_succ, List.getElem?_cons_zero]; rfl) (by kernel_rfl) (by kernel_rfl) (by kernel_rfl) (by exact fun _ _ _ h => h) (Or.inr ⟨by rfl, rfl⟩) (by assumption) ?_
            try simp only [Act.put, List.setIfInBounds_toArray, List.set_cons_zero, List.set_cons_succ]
            refine wpAnyH_take (i := 11) (v := undef) (by simp only [List.getElem?_toArray, List.getElem?_cons_succ, List.getElem?_cons_zero]; rfl) (by kernel_rfl) (by kernel_rfl) (by kernel_rfl) (by exact fun _ _ _ h => h) (Or.inr ⟨by rfl, rfl⟩) (by assumption) ?_
            try simp only [Act.put, List.setIfInBounds_toArray, List.set_cons_zero, List.set_cons_succ]
            refine wpAnyH_take (i := 12) (v := undef) (by simp only [List.getElem?_toArray, List.getElem?_cons_succ, List.getElem?_cons_zero]; rfl) (by kernel_rfl) (by kernel_rfl) (by kernel_rfl) (by exact fun _ _ _ h => h) (Or.inr ⟨by rfl, rfl⟩) (by assumption) ?_
            try simp only [Act.put, List.setIfInBounds_toArray, List.set_cons_zero, List.set_cons_succ]
            refine wpAnyH_take (i := 13) (v := undef) (by simp only [List.getElem?_toArray, List.getElem?_cons_succ, List.getElem?_cons_zero]; rfl) (by kernel_rfl) (by kernel_rfl) (by kernel_rfl) (by exact fun _ _ _ h => h) (Or.inr ⟨by rfl, rfl⟩) (by assumption) ?_
            try simp only [Act.put, List.setIfInBounds_toArray, List.set_cons_zero, List.set_cons_succ]
            refine wpAnyH_take (i := 14) (v := undef) (by simp only [List.getElem?_toArray, List.getElem?_cons_succ, List.getElem?_cons_zero]; rfl) (by kernel_rfl) (by kernel_rfl) (by kernel_rfl) (by exact fun _ _ _ h => h) (Or.inr ⟨by rfl, rfl⟩) (by assumption) ?_
            try simp only [Act.put, List.setIfInBounds_toArray, List.set_cons_zero, List.set_cons_succ]
            refine wpAnyH_take (i := 15) (v := undef) (by simp only [List.getElem?_toArray, List.getElem?_cons_succ, List.getElem?_cons_zero]; rfl) (by kernel_rfl) (by kernel_rfl) (by kernel_rfl) (by exact fun _ _ _ h => h) (Or.inr ⟨by rfl, rfl⟩) (by assumption) ?_
            try simp only [Act.put, List.setIfInBounds_toArray, List.set_cons_zero, List.set_cons_succ]
            refine wpAnyH_take (i := 16) (v := undef) (by simp only [List.getElem?_toArray, List.getElem?_cons_succ, List.getElem?_cons_zero]; rfl) (by kernel_rfl) (by kernel_rfl) (by kernel_rfl) (by exact fun _ _ _ h => h) (Or.inr ⟨by rfl, rfl⟩) (by assumption) ?_
            try simp only [Act.put, List.setIfInBounds_toArray, List.set_cons_zero, List.set_cons_succ]
            refine wpAnyH_take (i := 17) (v := undef) (by simp only [List.getElem?_toArray, List.getElem?_cons_succ, List.getElem?_cons_zero]; rfl) (by kernel_rfl) (by kernel_rfl) (by kernel_rfl) (by exact fun _ _ _ h => h) (Or.inr ⟨by rfl, rfl⟩) (by assumption) ?_
            try simp only [Act.put, List.setIfInBounds_toArray, List.set_cons_zero, List.set_cons_succ]
            refine wpAnyH_take (i := 18) (v := undef) (by simp only [List.getElem?_toArray, List.getElem?_cons_succ, List.getElem?_cons_zero]; rfl) (by kernel_rfl) (by kernel_rfl) (by kernel_rfl) (by exact fun _ _ _ h => h) (Or.inr ⟨by rfl, rfl⟩) (by assumption) ?_
            try simp only [Act.put, List.setIfInBounds_toArray, List.set_cons_zero, List.set_cons_succ]
            refine wpAnyH_take (i := 19) (v := undef) (by simp only [List.getElem?_toArray, List.getElem?_cons_succ, List.getElem?_cons_zero]; rfl) (by kernel_rfl) (by kernel_rfl) (by kernel_rfl) (by exact fun _ _ _ h => h) (Or.inr ⟨by rfl, rfl⟩) (by assumption) ?_
            try simp only [Act.put, List.setIfInBounds_toArray, List.set_cons_zero, List.set_cons_succ]
            refine wpAnyH_take (i := 20) (v := undef) (by simp only [List.getElem?_toArray, List.getElem?_cons_succ, List.getElem?_cons_zero]; rfl) (by kernel_rfl) (by kernel_rfl) (by kernel_rfl) (by exact fun _ _ _ h => h) (Or.inr ⟨by rfl, rfl⟩) (by assumption) ?_
            try simp only [Act.put, List.setIfInBounds_toArray, List.set_cons_zero, List.set_cons_succ]
            refine wpAnyH_take (i := 21) (v := undef) (by simp only [List.getElem?_toArray, List.getElem?_cons_succ, List.getElem?_cons_zero]; rfl) (by kernel_rfl) (by kernel_rfl) (by kernel_rfl) (by exact fun _ _ _ h => h) (Or.inr ⟨by rfl, rfl⟩) (by assumption) ?_
            try simp only [Act.put, List.setIfInBounds_toArray, List.set_cons_zero, List.set_cons_succ]
            refine wpAnyH_take (i := 22) (v := undef) (by simp only [List.getElem?_toArray, List.getElem?_cons_succ, List.getElem?_cons_zero]; rfl) (by kernel_rfl) (by kernel_rfl) (by kernel_rfl) (by exact fun _ _ _ h => h) (Or.inr ⟨by rfl, rfl⟩) (by assumption) ?_
            try simp only [Act.put, List.setIfInBounds_toArray, List.set_cons_zero, List.set_cons_succ]
            refine wpAnyH_take (i := 23) (v := undef) (by simp only [List.getElem?_toArray, List.getElem?_cons_succ, List.getElem?_cons_zero]; rfl) (by kernel_rfl) (by kernel_rfl) (by kernel_rfl) (by exact fun _ _ _ h => h) (Or.inr ⟨by rfl, rfl⟩) (by assumption) ?_
            try simp only [Act.put, List.setIfInBounds_toArray, List.set_cons_zero, List.set_cons_succ]
            refine wpAnyH_take (i := 24) (v := ?_) (by simp only [List.getElem?_toArray, List.getElem?_cons_succ, List.getElem?_cons_zero]; rfl) (by kernel_rfl) (by kernel_rfl) (by kernel_rfl) (by exact fun _ _ _ h => h) (Or.inl ⟨by rfl, ?_⟩) (by assumption) ?_; rotate_left; focus (intro w hSw; (try dsimp only at hSw); first | (go_simp; done) | (go_simp; with_reducible rfl))
            try simp only [Act.put, List.setIfInBounds_toArray, List.set_cons_zero, List.set_cons_succ]
            refine wpAnyH_done (by kernel_rfl) ?_ _
            have hb9 := hHeld.out
            have hbo9 := Lib.hid (hbo8.out.trans (hb9.mono hbo8.out.size))
            clear hHeld DD hb9
            go_wp2
            go_roundw
            case rel => exact ⟨a + 1, by omega, by go_num, hbo9⟩
            case measure => simp [intOf]; omega
          obtain ⟨m1, k1⟩ := HFB.out (by rw [HT.out]; exact ht0)
          rw [HFF.out, HM.out] at m1
          rw [HFF.out, HK.out] at k1
          obtain ⟨t2, ht2⟩ : ∃ t, confI d ⟨r.gap + z, true⟩ p q = t := ⟨_, rfl⟩
          have ht20 : t2 ≠ 0 := by rw [← ht2]; exact conf_strict HST.out (by rw [HT.out]; exact ht0)
          have HTS := Lib.hid ht2
          clear ht2
          have ne1 : (t != 0) = true := by simpa using ht0
          have ne2 : (t2 == 0) = false := by simpa using ht20
          have ne3 : (m == 0) = false := by simpa using m1
          have ne4 : ¬ ((b : Int) < k) := by omega
          have ne4' : decide ((b : Int) < k) = false := decide_eq_false ne4
          have HCS := Lib.hid (show clashB d r [p] (l.drop b) = true from clashB_yes (p := p) (q := q) (by simp) (List.mem_of_getElem? (i := 0) (by rw [List.getElem?_drop]; exact HQ.out)) (by rw [HT.out]; exact ht0))
          have RLA := RL7.out
          rw [← HL.out] at RLA
          have RA := Lib.hid (SlOf.oneR RLA HP.out)
          have RB := Lib.hid (SlOf.dropR RLA (k := b) (by have := HL.out; omega))
          rw [HL.out] at RB
          clear RLA
          have WA := Lib.hid (show ∀ x ∈ [p], PassageD.wf x from fun x hx => by simp at hx; subst hx; exact WP.out)
          have WB := Lib.hid (show ∀ x ∈ l.drop b, PassageD.wf x from fun x hx => WF.out x (List.mem_of_mem_drop hx))
          go_upto_region 15 with fail
          have FKH0 := Lib.hid (show w7.cell? ⟨w1.heap.size, 0, none⟩ = some (.slice A0 n0 c0) from KH7.out.cell 0)
          have FKH1 := Lib.hid (show w7.cell? ⟨w1.heap.size, 1, none⟩ = some (.slice A1 n1 c1) from KH7.out.cell 1)
          have FKR0 := Lib.hid (show w7.cell? ⟨w1.heap.size + 1, 0, none⟩ = some (.int .i64 r.gap) from KR7.out.cell 0)
          have FKR1 := Lib.hid (show w7.cell? ⟨w1.heap.size + 1, 1, none⟩ = some (.bool r.noMeet) from KR7.out.cell 1)
          have FKS0 := Lib.hid (show w7.cell? ⟨gs, 0, none⟩ = some (.int .i64 (r.gap + z)) from KS7.out.cell 0)
          have FKS1 := Lib.hid (show w7.cell? ⟨gs, 1, none⟩ = some (.bool true) from KS7.out.cell 1)
          have DD := Lib.hid ((Below.refl w7.heap.size w7).drew)
          have vFKH0 := FKH0.out
          have vFKH1 := FKH1.out
          have vFKR0 := FKR0.out
          have vFKR1 := FKR1.out
          have vFKS0 := FKS0.out
          have vFKS1 := FKS1.out
          have vGp0 := Gp0.out
          have vGp1 := Gp1.out
          have vGp2 := Gp2.out
          have vGp3 := Gp3.out
          have vGp4 := Gp4.out
          have vGq0 := Gq0.out
          have vGq1 := Gq1.out
          have vGq2 := Gq2.out
          have vGq3 := Gq3.out
          have vGq4 := Gq4.out
          refine wp_region_held_drew (S := (fun w' => w'.cell? ⟨w1.heap.size, 0, none⟩ = some (.slice A0 n0 c0) ∧ w'.cell? ⟨w1.heap.size, 1, none⟩ = some (.slice A1 n1 c1) ∧ w'.cell? ⟨w1.heap.size + 1, 0, none⟩ = some (.int .i64 r.gap) ∧ w'.cell? ⟨w1.heap.size + 1, 1, none⟩ = some (.bool r.noMeet) ∧ w'.cell? ⟨gs, 0, none⟩ = some (.int .i64 (r.gap + z)) ∧ w'.cell? ⟨gs, 1, none⟩ = some (.bool true) ∧ w'.cell? ⟨gl, ol + a * 5, none⟩ = some (.int .i64 p.ship) ∧ w'.cell? ⟨gl, ol + a * 5 + 1, none⟩ = some (.int .i64 p.segment) ∧ w'.cell? ⟨gl, ol + a * 5 + 2, none⟩ = some (.bool p.toward) ∧ w'.cell? ⟨gl, ol + a * 5 + 3, none⟩ = some (.int .i64 p.start) ∧ w'.cell? ⟨gl, ol + a * 5 + 4, none⟩ = some (.int .i64 p.stop) ∧ w'.cell? ⟨gl, ol + b * 5, none⟩ = some (.int .i64 q.ship) ∧ w'.cell? ⟨gl, ol + b * 5 + 1, none⟩ = some (.int .i64 q.segment) ∧ w'.cell? ⟨gl, ol + b * 5 + 2, none⟩ = some (.bool q.toward) ∧ w'.cell? ⟨gl, ol + b * 5 + 3, none⟩ = some (.int .i64 q.start) ∧ w'.cell? ⟨gl, ol + b * 5 + 4, none⟩ = some (.int .i64 q.stop) ∧ Hid (Below w7.heap.size w7 w'))) (by kernel_rfl) ?_ (fun hHeld => ?_)
          · (try dsimp only); go_keep
          refine wpAnyH_take (i := 0) (v := ?_) (by simp only [List.getElem?_toArray, List.getElem?_cons_zero]; rfl) (by kernel_rfl) (by kernel_rfl) (by kernel_rfl) (by exact fun _ _ _ h => h) (Or.inl ⟨by rfl, ?_⟩) (by assumption) ?_; rotate_left; focus (intro w hSw; (try dsimp only at hSw); first | (go_simp; done) | (go_simp; with_reducible rfl))
          try simp only [Act.put, List.setIfInBounds_toArray, List.set_cons_zero, List.set_cons_succ]
          refine wpAnyH_take (i := 1) (v := ?_) (by simp only [List.getElem?_toArray, List.getElem?_cons_succ, List.getElem?_cons_zero]; rfl) (by kernel_rfl) (by kernel_rfl) (by kernel_rfl) (by exact fun _ _ _ h => h) (Or.inl ⟨by rfl, ?_⟩) (by assumption) ?_; rotate_left; focus (intro w hSw; (try dsimp only at hSw); first | (go_simp; done) | (go_simp; with_reducible rfl))
          try simp only [Act.put, List.setIfInBounds_toArray, List.set_cons_zero, List.set_cons_succ]
          refine wpAnyH_take (i := 2) (v := ?_) (by simp only [List.getElem?_toArray, List.getElem?_cons_succ, List.getElem?_cons_zero]; rfl) (by kernel_rfl) (by kernel_rfl) (by kernel_rfl) (by exact fun _ _ _ h => h) (Or.inl ⟨by rfl, ?_⟩) (by assumption) ?_; rotate_left; focus (intro w hSw; (try dsimp only at hSw); first | (go_simp; done) | (go_simp; with_reducible rfl))
          try simp only [Act.put, List.setIfInBounds_toArray, List.set_cons_zero, List.set_cons_succ]
          refine wpAnyH_take (i := 3) (v := ?_) (by simp only [List.getElem?_toArray, List.getElem?_cons_succ, List.getElem?_cons_zero]; rfl) (by kernel_rfl) (by kernel_rfl) (by kernel_rfl) (by exact fun _ _ _ h => h) (Or.inl ⟨by rfl, ?_⟩) (by assumption) ?_; rotate_left; focus (intro w hSw; (try dsimp only at hSw); first | (go_simp; done) | (go_simp; with_reducible rfl))
          try simp only [Act.put, List.setIfInBounds_toArray, List.set_cons_zero, List.set_cons_succ]
          refine wpAnyH_take (i := 4) (v := ?_) (by simp only [List.getElem?_toArray, List.getElem?_cons_succ, List.getElem?_cons_zero]; rfl) (by kernel_rfl) (by kernel_rfl) (by kernel_rfl) (by exact fun _ _ _ h => h) (Or.inl ⟨by rfl, ?_⟩) (by assumption) ?_; rotate_left; focus (intro w hSw; (try dsimp only at hSw); first | (go_simp; done) | (go_simp; with_reducible rfl))
          try simp only [Act.put, List.setIfInBounds_toArray, List.set_cons_zero, List.set_cons_succ]
          refine wpAnyH_take (i := 5) (v := ?_) (by simp only [List.getElem?_toArray, List.getElem?_cons_succ, List.getElem?_cons_zero]; rfl) (by kernel_rfl) (by kernel_rfl) (by kernel_rfl) (by exact fun _ _ _ h => h) (Or.inl ⟨by rfl, ?_⟩) (by assumption) ?_; rotate_left; focus (intro w hSw; (try dsimp only at hSw); first | (go_simp; done) | (go_simp; with_reducible rfl))
          try simp only [Act.put, List.setIfInBounds_toArray, List.set_cons_zero, List.set_cons_succ]
          refine wpAnyH_take (i := 6) (v := ?_) (by simp only [List.getElem?_toArray, List.getElem?_cons_succ, List.getElem?_cons_zero]; rfl) (by kernel_rfl) (by kernel_rfl) (by kernel_rfl) (by exact fun _ _ _ h => h) (Or.inl ⟨by rfl, ?_⟩) (by assumption) ?_; rotate_left; focus (intro w hSw; (try dsimp only at hSw); first | (go_simp; done) | (go_simp; with_reducible rfl))
          try simp only [Act.put, List.setIfInBounds_toArray, List.set_cons_zero, List.set_cons_succ]
          refine wpAnyH_take (i := 7) (v := ?_) (by simp only [List.getElem?_toArray, List.getElem?_cons_succ, List.getElem?_cons_zero]; rfl) (by kernel_rfl) (by kernel_rfl) (by kernel_rfl) (by exact fun _ _ _ h => h) (Or.inl ⟨by rfl, ?_⟩) (by assumption) ?_; rotate_left; focus (intro w hSw; (try dsimp only at hSw); first | (go_simp; done) | (go_simp; with_reducible rfl))
          try simp only [Act.put, List.setIfInBounds_toArray, List.set_cons_zero, List.set_cons_succ]
          refine wpAnyH_take (i := 8) (v := ?_) (by simp only [List.getElem?_toArray, List.getElem?_cons_succ, List.getElem?_cons_zero]; rfl) (by kernel_rfl) (by kernel_rfl) (by kernel_rfl) (by exact fun _ _ _ h => h) (Or.inl ⟨by rfl, ?_⟩) (by assumption) ?_; rotate_left; focus (intro w hSw; (try dsimp only at hSw); first | (go_simp; done) | (go_simp; with_reducible rfl))
          try simp only [Act.put, List.setIfInBounds_toArray, List.set_cons_zero, List.set_cons_succ]
          refine wpAnyH_take (i := 9) (v := ?_) (by simp only [List.getElem?_toArray, List.getElem?_cons_succ, List.getElem?_cons_zero]; rfl) (by kernel_rfl) (by kernel_rfl) (by kernel_rfl) (by exact fun _ _ _ h => h) (Or.inl ⟨by rfl, ?_⟩) (by assumption) ?_; rotate_left; focus (intro w hSw; (try dsimp only at hSw); first | (go_simp; done) | (go_simp; with_reducible rfl))
          try simp only [Act.put, List.setIfInBounds_toArray, List.set_cons_zero, List.set_cons_succ]
          refine wpAnyH_take (i := 10) (v := ?_) (by simp only [List.getElem?_toArray, List.getElem?_cons_succ, List.getElem?_cons_zero]; rfl) (by kernel_rfl) (by kernel_rfl) (by kernel_rfl) (by exact fun _ _ _ h => h) (Or.inl ⟨by rfl, ?_⟩) (by assumption) ?_; rotate_left; focus (intro w hSw; (try dsimp only at hSw); first | (go_simp; done) | (go_simp; with_reducible rfl))
          try simp only [Act.put, List.setIfInBounds_toArray, List.set_cons_zero, List.set_cons_succ]
          refine wpAnyH_ready (rs := [11]) (by kernel_rfl) (by simp) ?_
          refine AllReadyH.cons rfl (fun K hK => ?_) AllReadyH.nil
          rw [if_pos (by rfl)]
          go_simp
          go_at_call 19
          have kB := hHeld.2.2.2.2.2.2.2.2.2.2.2.2.2.2.2.2
          refine (implConflictOf _ _ d r q p _ (RD7.out.below kB.out) NM.out WQ.out WP.out).mono ?_
          rw [HT2.out]
          rintro e wq11 ⟨rfl, hbk⟩
          have HBK := kB.out.trans (hbk.mono kB.out.size)
          have QS := Lib.hid (show wq11.cell? ⟨w1.heap.size, 0, none⟩ = some (.slice A0 n0 c0) ∧ wq11.cell? ⟨w1.heap.size, 1, none⟩ = some (.slice A1 n1 c1) ∧ wq11.cell? ⟨w1.heap.size + 1, 0, none⟩ = some (.int .i64 r.gap) ∧ wq11.cell? ⟨w1.heap.size + 1, 1, none⟩ = some (.bool r.noMeet) ∧ wq11.cell? ⟨gs, 0, none⟩ = some (.int .i64 (r.gap + z)) ∧ wq11.cell? ⟨gs, 1, none⟩ = some (.bool true) ∧ wq11.cell? ⟨gl, ol + a * 5, none⟩ = some (.int .i64 p.ship) ∧ wq11.cell? ⟨gl, ol + a * 5 + 1, none⟩ = some (.int .i64 p.segment) ∧ wq11.cell? ⟨gl, ol + a * 5 + 2, none⟩ = some (.bool p.toward) ∧ wq11.cell? ⟨gl, ol + a * 5 + 3, none⟩ = some (.int .i64 p.start) ∧ wq11.cell? ⟨gl, ol + a * 5 + 4, none⟩ = some (.int .i64 p.stop) ∧ wq11.cell? ⟨gl, ol + b * 5, none⟩ = some (.int .i64 q.ship) ∧ wq11.cell? ⟨gl, ol + b * 5 + 1, none⟩ = some (.int .i64 q.segment) ∧ wq11.cell? ⟨gl, ol + b * 5 + 2, none⟩ = some (.bool q.toward) ∧ wq11.cell? ⟨gl, ol + b * 5 + 3, none⟩ = some (.int .i64 q.start) ∧ wq11.cell? ⟨gl, ol + b * 5 + 4, none⟩ = some (.int .i64 q.stop) ∧ Hid (Below w7.heap.size w7 wq11) from ⟨cell_onV FKH0.out HBK, cell_onV FKH1.out HBK, cell_onV FKR0.out HBK, cell_onV FKR1.out HBK, cell_onV FKS0.out HBK, cell_onV FKS1.out HBK, cell_onV Gp0.out HBK, cell_onV Gp1.out HBK, cell_onV Gp2.out HBK, cell_onV Gp3.out HBK, cell_onV Gp4.out HBK, cell_onV Gq0.out HBK, cell_onV Gq1.out HBK, cell_onV Gq2.out HBK, cell_onV Gq3.out HBK, cell_onV Gq4.out HBK, Lib.hid HBK⟩)
          clear hbk kB hHeld HBK
          go_simp
          refine hK.out _ _ ?_ (fun hHeld => ?_)
          · (try dsimp only); exact QS.out
          clear hK K
          try simp only [Act.put, List.setIfInBounds_toArray, List.set_cons_zero, List.set_cons_succ]
          refine wpAnyH_take (i := 12) (v := ?_) (by simp only [List.getElem?_toArray, List.getElem?_cons_succ, List.getElem?_cons_zero]; rfl) (by kernel_rfl) (by kernel_rfl) (by kernel_rfl) (by exact fun _ _ _ h => h) (Or.inl ⟨by rfl, ?_⟩) (by assumption) ?_; rotate_left; focus (intro w hSw; (try dsimp only at hSw); first | (go_simp; done) | (go_simp; with_reducible rfl))
          try simp only [Act.put, List.setIfInBounds_toArray, List.set_cons_zero, List.set_cons_succ]
          refine wpAnyH_take (i := 13) (v := ?_) (by simp only [List.getElem?_toArray, List.getElem?_cons_succ, List.getElem?_cons_zero]; rfl) (by kernel_rfl) (by kernel_rfl) (by kernel_rfl) (by exact fun _ _ _ h => h) (Or.inl ⟨by rfl, ?_⟩) (by assumption) ?_; rotate_left; focus (intro w hSw; (try dsimp only at hSw); first | (go_simp; done) | (go_simp; with_reducible rfl))
          try simp only [Act.put, List.setIfInBounds_toArray, List.set_cons_zero, List.set_cons_succ]
          refine wpAnyH_take (i := 14) (v := ?_) (by simp only [List.getElem?_toArray, List.getElem?_cons_succ, List.getElem?_cons_zero]; rfl) (by kernel_rfl) (by kernel_rfl) (by kernel_rfl) (by exact fun _ _ _ h => h) (Or.inl ⟨by rfl, ?_⟩) (by assumption) ?_; rotate_left; focus (intro w hSw; (try dsimp only at hSw); first | (go_simp; done) | (go_simp; with_reducible rfl))
          try simp only [Act.put, List.setIfInBounds_toArray, List.set_cons_zero, List.set_cons_succ]
          refine wpAnyH_take (i := 15) (v := ?_) (by simp only [List.getElem?_toArray, List.getElem?_cons_succ, List.getElem?_cons_zero]; rfl) (by kernel_rfl) (by kernel_rfl) (by kernel_rfl) (by exact fun _ _ _ h => h) (Or.inl ⟨by rfl, ?_⟩) (by assumption) ?_; rotate_left; focus (intro w hSw; (try dsimp only at hSw); first | (go_simp; done) | (go_simp; with_reducible rfl))
          try simp only [Act.put, List.setIfInBounds_toArray, List.set_cons_zero, List.set_cons_succ]
          refine wpAnyH_take (i := 16) (v := ?_) (by simp only [List.getElem?_toArray, List.getElem?_cons_succ, List.getElem?_cons_zero]; rfl) (by kernel_rfl) (by kernel_rfl) (by kernel_rfl) (by exact fun _ _ _ h => h) (Or.inl ⟨by rfl, ?_⟩) (by assumption) ?_; rotate_left; focus (intro w hSw; (try dsimp only at hSw); first | (go_simp; done) | (go_simp; with_reducible rfl))
          try simp only [Act.put, List.setIfInBounds_toArray, List.set_cons_zero, List.set_cons_succ]
          refine wpAnyH_take (i := 17) (v := ?_) (by simp only [List.getElem?_toArray, List.getElem?_cons_succ, List.getElem?_cons_zero]; rfl) (by kernel_rfl) (by kernel_rfl) (by kernel_rfl) (by exact fun _ _ _ h => h) (Or.inl ⟨by rfl, ?_⟩) (by assumption) ?_; rotate_left; focus (intro w hSw; (try dsimp only at hSw); first | (go_simp; done) | (go_simp; with_reducible rfl))
          try simp only [Act.put, List.setIfInBounds_toArray, List.set_cons_zero, List.set_cons_succ]
          refine wpAnyH_take (i := 18) (v := ?_) (by simp only [List.getElem?_toArray, List.getElem?_cons_succ, List.getElem?_cons_zero]; rfl) (by kernel_rfl) (by kernel_rfl) (by kernel_rfl) (by exact fun _ _ _ h => h) (Or.inl ⟨by rfl, ?_⟩) (by assumption) ?_; rotate_left; focus (intro w hSw; (try dsimp only at hSw); first | (go_simp; done) | (go_simp; with_reducible rfl))
          try simp only [Act.put, List.setIfInBounds_toArray, List.set_cons_zero, List.set_cons_succ]
          refine wpAnyH_take (i := 19) (v := ?_) (by simp only [List.getElem?_toArray, List.getElem?_cons_succ, List.getElem?_cons_zero]; rfl) (by kernel_rfl) (by kernel_rfl) (by kernel_rfl) (by exact fun _ _ _ h => h) (Or.inl ⟨by rfl, ?_⟩) (by assumption) ?_; rotate_left; focus (intro w hSw; (try dsimp only at hSw); first | (go_simp; done) | (go_simp; with_reducible rfl))
          try simp only [Act.put, List.setIfInBounds_toArray, List.set_cons_zero, List.set_cons_succ]
          refine wpAnyH_take (i := 20) (v := ?_) (by simp only [List.getElem?_toArray, List.getElem?_cons_succ, List.getElem?_cons_zero]; rfl) (by kernel_rfl) (by kernel_rfl) (by kernel_rfl) (by exact fun _ _ _ h => h) (Or.inl ⟨by rfl, ?_⟩) (by assumption) ?_; rotate_left; focus (intro w hSw; (try dsimp only at hSw); first | (go_simp; done) | (go_simp; with_reducible rfl))
          try simp only [Act.put, List.setIfInBounds_toArray, List.set_cons_zero, List.set_cons_succ]
          refine wpAnyH_take (i := 21) (v := ?_) (by simp only [List.getElem?_toArray, List.getElem?_cons_succ, List.getElem?_cons_zero]; rfl) (by kernel_rfl) (by kernel_rfl) (by kernel_rfl) (by exact fun _ _ _ h => h) (Or.inl ⟨by rfl, ?_⟩) (by assumption) ?_; rotate_left; focus (intro w hSw; (try dsimp only at hSw); first | (go_simp; done) | (go_simp; with_reducible rfl))
          try simp only [Act.put, List.setIfInBounds_toArray, List.set_cons_zero, List.set_cons_succ]
          refine wpAnyH_take (i := 22) (v := ?_) (by simp only [List.getElem?_toArray, List.getElem?_cons_succ, List.getElem?_cons_zero]; rfl) (by kernel_rfl) (by kernel_rfl) (by kernel_rfl) (by exact fun _ _ _ h => h) (Or.inl ⟨by rfl, ?_⟩) (by assumption) ?_; rotate_left; focus (intro w hSw; (try dsimp only at hSw); first | (go_simp; done) | (go_simp; with_reducible rfl))
          try simp only [Act.put, List.setIfInBounds_toArray, List.set_cons_zero, List.set_cons_succ]
          refine wpAnyH_take (i := 23) (v := ?_) (by simp only [List.getElem?_toArray, List.getElem?_cons_succ, List.getElem?_cons_zero]; rfl) (by kernel_rfl) (by kernel_rfl) (by kernel_rfl) (by exact fun _ _ _ h => h) (Or.inl ⟨by rfl, ?_⟩) (by assumption) ?_; rotate_left; focus (intro w hSw; (try dsimp only at hSw); first | (go_simp; done) | (go_simp; with_reducible rfl))
          try simp only [Act.put, List.setIfInBounds_toArray, List.set_cons_zero, List.set_cons_succ]
          refine wpAnyH_take (i := 24) (v := ?_) (by simp only [List.getElem?_toArray, List.getElem?_cons_succ, List.getElem?_cons_zero]; rfl) (by kernel_rfl) (by kernel_rfl) (by kernel_rfl) (by exact fun _ _ _ h => h) (Or.inl ⟨by rfl, ?_⟩) (by assumption) ?_; rotate_left; focus (intro w hSw; (try dsimp only at hSw); first | (go_simp; done) | (go_simp; with_reducible rfl))
          try simp only [Act.put, List.setIfInBounds_toArray, List.set_cons_zero, List.set_cons_succ]
          refine wpAnyH_take (i := 25) (v := ?_) (by simp only [List.getElem?_toArray, List.getElem?_cons_succ, List.getElem?_cons_zero]; rfl) (by kernel_rfl) (by kernel_rfl) (by kernel_rfl) (by exact fun _ _ _ h => h) (Or.inl ⟨by rfl, ?_⟩) (by assumption) ?_; rotate_left; focus (intro w hSw; (try dsimp only at hSw); first | (go_simp; done) | (go_simp; with_reducible rfl))
          try simp only [Act.put, List.setIfInBounds_toArray, List.set_cons_zero, List.set_cons_succ]
          refine wpAnyH_take (i := 26) (v := ?_) (by simp only [List.getElem?_toArray, List.getElem?_cons_succ, List.getElem?_cons_zero]; rfl) (by kernel_rfl) (by kernel_rfl) (by kernel_rfl) (by exact fun _ _ _ h => h) (Or.inl ⟨by rfl, ?_⟩) (by assumption) ?_; rotate_left; focus (intro w hSw; (try dsimp only at hSw); first | (go_simp; done) | (go_simp; with_reducible rfl))
          try simp only [Act.put, List.setIfInBounds_toArray, List.set_cons_zero, List.set_cons_succ]
          refine wpAnyH_ready (rs := [27]) (by kernel_rfl) (by simp) ?_
          refine AllReadyH.cons rfl (fun K hK => ?_) AllReadyH.nil
          rw [if_pos (by rfl)]
          go_simp
          go_at_call 19
          have kB := hHeld.2.2.2.2.2.2.2.2.2.2.2.2.2.2.2.2
          refine (implConflictOf _ _ d ⟨r.gap + z, true⟩ p q _ (RD7.out.below kB.out) NM.out WP.out WQ.out).mono ?_
          rw [HTS.out]
          rintro e wq27 ⟨rfl, hbk⟩
          have HBK := kB.out.trans (hbk.mono kB.out.size)
          have QS := Lib.hid (show wq27.cell? ⟨w1.heap.size, 0, none⟩ = some (.slice A0 n0 c0) ∧ wq27.cell? ⟨w1.heap.size, 1, none⟩ = some (.slice A1 n1 c1) ∧ wq27.cell? ⟨w1.heap.size + 1, 0, none⟩ = some (.int .i64 r.gap) ∧ wq27.cell? ⟨w1.heap.size + 1, 1, none⟩ = some (.bool r.noMeet) ∧ wq27.cell? ⟨gs, 0, none⟩ = some (.int .i64 (r.gap + z)) ∧ wq27.cell? ⟨gs, 1, none⟩ = some (.bool true) ∧ wq27.cell? ⟨gl, ol + a * 5, none⟩ = some (.int .i64 p.ship) ∧ wq27.cell? ⟨gl, ol + a * 5 + 1, none⟩ = some (.int .i64 p.segment) ∧ wq27.cell? ⟨gl, ol + a * 5 + 2, none⟩ = some (.bool p.toward) ∧ wq27.cell? ⟨gl, ol + a * 5 + 3, none⟩ = some (.int .i64 p.start) ∧ wq27.cell? ⟨gl, ol + a * 5 + 4, none⟩ = some (.int .i64 p.stop) ∧ wq27.cell? ⟨gl, ol + b * 5, none⟩ = some (.int .i64 q.ship) ∧ wq27.cell? ⟨gl, ol + b * 5 + 1, none⟩ = some (.int .i64 q.segment) ∧ wq27.cell? ⟨gl, ol + b * 5 + 2, none⟩ = some (.bool q.toward) ∧ wq27.cell? ⟨gl, ol + b * 5 + 3, none⟩ = some (.int .i64 q.start) ∧ wq27.cell? ⟨gl, ol + b * 5 + 4, none⟩ = some (.int .i64 q.stop) ∧ Hid (Below w7.heap.size w7 wq27) from ⟨cell_onV FKH0.out HBK, cell_onV FKH1.out HBK, cell_onV FKR0.out HBK, cell_onV FKR1.out HBK, cell_onV FKS0.out HBK, cell_onV FKS1.out HBK, cell_onV Gp0.out HBK, cell_onV Gp1.out HBK, cell_onV Gp2.out HBK, cell_onV Gp3.out HBK, cell_onV Gp4.out HBK, cell_onV Gq0.out HBK, cell_onV Gq1.out HBK, cell_onV Gq2.out HBK, cell_onV Gq3.out HBK, cell_onV Gq4.out HBK, Lib.hid HBK⟩)
          clear hbk kB hHeld HBK
          go_simp
          refine hK.out _ _ ?_ (fun hHeld => ?_)
          · (try dsimp only); exact QS.out
          clear hK K
          try simp only [Act.put, List.setIfInBounds_toArray, List.set_cons_zero, List.set_cons_succ]
          refine wpAnyH_take (i := 28) (v := ?_) (by simp only [List.getElem?_toArray, List.getElem?_cons_succ, List.getElem?_cons_zero]; rfl) (by kernel_rfl) (by kernel_rfl) (by kernel_rfl) (by exact fun _ _ _ h => h) (Or.inl ⟨by rfl, ?_⟩) (by assumption) ?_; rotate_left; focus (intro w hSw; (try dsimp only at hSw); first | (go_simp; done) | (go_simp; with_reducible rfl))
          try simp only [Act.put, List.setIfInBounds_toArray, List.set_cons_zero, List.set_cons_succ]
          refine wpAnyH_take (i := 29) (v := ?_) (by simp only [List.getElem?_toArray, List.getElem?_cons_succ, List.getElem?_cons_zero]; rfl) (by kernel_rfl) (by kernel_rfl) (by kernel_rfl) (by exact fun _ _ _ h => h) (Or.inl ⟨by rfl, ?_⟩) (by assumption) ?_; rotate_left; focus (intro w hSw; (try dsimp only at hSw); first | (go_simp; done) | (go_simp; with_reducible rfl))
          try simp only [Act.put, List.setIfInBounds_toArray, List.set_cons_zero, List.set_cons_succ]
          refine wpAnyH_take (i := 30) (v := ?_) (by simp only [List.getElem?_toArray, List.getElem?_cons_succ, List.getElem?_cons_zero]; rfl) (by kernel_rfl) (by kernel_rfl) (by kernel_rfl) (by exact fun _ _ _ h => h) (Or.inl ⟨by rfl, ?_⟩) (by assumption) ?_; rotate_left; focus (intro w hSw; (try dsimp only at hSw); first | (go_simp; done) | (go_simp; with_reducible rfl))
          try simp only [Act.put, List.setIfInBounds_toArray, List.set_cons_zero, List.set_cons_succ]
          refine wpAnyH_take (i := 31) (v := ?_) (by simp only [List.getElem?_toArray, List.getElem?_cons_succ, List.getElem?_cons_zero]; rfl) (by kernel_rfl) (by kernel_rfl) (by kernel_rfl) (by exact fun _ _ _ h => h) (Or.inl ⟨by rfl, ?_⟩) (by assumption) ?_; rotate_left; focus (intro w hSw; (try dsimp only at hSw); first | (go_simp; done) | (go_simp; with_reducible rfl))
          try simp only [Act.put, List.setIfInBounds_toArray, List.set_cons_zero, List.set_cons_succ]
          refine wpAnyH_take (i := 32) (v := ?_) (by simp only [List.getElem?_toArray, List.getElem?_cons_succ, List.getElem?_cons_zero]; rfl) (by kernel_rfl) (by kernel_rfl) (by kernel_rfl) (by exact fun _ _ _ h => h) (Or.inl ⟨by rfl, ?_⟩) (by assumption) ?_; rotate_left; focus (intro w hSw; (try dsimp only at hSw); first | (go_simp; done) | (go_simp; with_reducible rfl))
          try simp only [Act.put, List.setIfInBounds_toArray, List.set_cons_zero, List.set_cons_succ]
          refine wpAnyH_take (i := 33) (v := ?_) (by simp only [List.getElem?_toArray, List.getElem?_cons_succ, List.getElem?_cons_zero]; rfl) (by kernel_rfl) (by kernel_rfl) (by kernel_rfl) (by exact fun _ _ _ h => h) (Or.inl ⟨by rfl, ?_⟩) (by assumption) ?_; rotate_left; focus (intro w hSw; (try dsimp only at hSw); first | (go_simp; done) | (go_simp; with_reducible rfl))
          try simp only [Act.put, List.setIfInBounds_toArray, List.set_cons_zero, List.set_cons_succ]
          refine wpAnyH_take (i := 34) (v := ?_) (by simp only [List.getElem?_toArray, List.getElem?_cons_succ, List.getElem?_cons_zero]; rfl) (by kernel_rfl) (by kernel_rfl) (by kernel_rfl) (by exact fun _ _ _ h => h) (Or.inl ⟨by rfl, ?_⟩) (by assumption) ?_; rotate_left; focus (intro w hSw; (try dsimp only at hSw); first | (go_simp; done) | (go_simp; with_reducible rfl))
          try simp only [Act.put, List.setIfInBounds_toArray, List.set_cons_zero, List.set_cons_succ]
          refine wpAnyH_take (i := 35) (v := ?_) (by simp only [List.getElem?_toArray, List.getElem?_cons_succ, List.getElem?_cons_zero]; rfl) (by kernel_rfl) (by kernel_rfl) (by kernel_rfl) (by exact fun _ _ _ h => h) (Or.inl ⟨by rfl, ?_⟩) (by assumption) ?_; rotate_left; focus (intro w hSw; (try dsimp only at hSw); first | (go_simp; done) | (go_simp; with_reducible rfl))
          try simp only [Act.put, List.setIfInBounds_toArray, List.set_cons_zero, List.set_cons_succ]
          refine wpAnyH_take (i := 36) (v := ?_) (by simp only [List.getElem?_toArray, List.getElem?_cons_succ, List.getElem?_cons_zero]; rfl) (by kernel_rfl) (by kernel_rfl) (by kernel_rfl) (by exact fun _ _ _ h => h) (Or.inl ⟨by rfl, ?_⟩) (by assumption) ?_; rotate_left; focus (intro w hSw; (try dsimp only at hSw); first | (go_simp; done) | (go_simp; with_reducible rfl))
          try simp only [Act.put, List.setIfInBounds_toArray, List.set_cons_zero, List.set_cons_succ]
          refine wpAnyH_take (i := 37) (v := ?_) (by simp only [List.getElem?_toArray, List.getElem?_cons_succ, List.getElem?_cons_zero]; rfl) (by kernel_rfl) (by kernel_rfl) (by kernel_rfl) (by exact fun _ _ _ h => h) (Or.inl ⟨by rfl, ?_⟩) (by assumption) ?_; rotate_left; focus (intro w hSw; (try dsimp only at hSw); first | (go_simp; done) | (go_simp; with_reducible rfl))
          try simp only [Act.put, List.setIfInBounds_toArray, List.set_cons_zero, List.set_cons_succ]
          refine wpAnyH_take (i := 38) (v := ?_) (by simp only [List.getElem?_toArray, List.getElem?_cons_succ, List.getElem?_cons_zero]; rfl) (by kernel_rfl) (by kernel_rfl) (by kernel_rfl) (by exact fun _ _ _ h => h) (Or.inl ⟨by rfl, ?_⟩) (by assumption) ?_; rotate_left; focus (intro w hSw; (try dsimp only at hSw); first | (go_simp; done) | (go_simp; with_reducible rfl))
          try simp only [Act.put, List.setIfInBounds_toArray, List.set_cons_zero, List.set_cons_succ]
          refine wpAnyH_take (i := 39) (v := ?_) (by simp only [List.getElem?_toArray, List.getElem?_cons_succ, List.getElem?_cons_zero]; rfl) (by kernel_rfl) (by kernel_rfl) (by kernel_rfl) (by exact fun _ _ _ h => h) (Or.inl ⟨by rfl, ?_⟩) (by assumption) ?_; rotate_left; focus (intro w hSw; (try dsimp only at hSw); first | (go_simp; done) | (go_simp; with_reducible rfl))
          try simp only [Act.put, List.setIfInBounds_toArray, List.set_cons_zero, List.set_cons_succ]
          refine wpAnyH_take (i := 41) (v := ?_) (by simp only [List.getElem?_toArray, List.getElem?_cons_succ, List.getElem?_cons_zero]; rfl) (by kernel_rfl) (by kernel_rfl) (by kernel_rfl) (by exact fun _ _ _ h => h) (Or.inl ⟨by rfl, ?_⟩) (by assumption) ?_; rotate_left; focus (intro w hSw; (try dsimp only at hSw); first | (go_simp; done) | (go_simp; with_reducible rfl))
          try simp only [Act.put, List.setIfInBounds_toArray, List.set_cons_zero, List.set_cons_succ]
          refine wpAnyH_take (i := 42) (v := ?_) (by simp only [List.getElem?_toArray, List.getElem?_cons_succ, List.getElem?_cons_zero]; rfl) (by kernel_rfl) (by kernel_rfl) (by kernel_rfl) (by exact fun _ _ _ h => h) (Or.inl ⟨by rfl, ?_⟩) (by assumption) ?_; rotate_left; focus (intro w hSw; (try dsimp only at hSw); first | (go_simp; done) | (go_simp; with_reducible rfl))
          try simp only [Act.put, List.setIfInBounds_toArray, List.set_cons_zero, List.set_cons_succ]
          refine wpAnyH_take (i := 43) (v := ?_) (by simp only [List.getElem?_toArray, List.getElem?_cons_succ, List.getElem?_cons_zero]; rfl) (by kernel_rfl) (by kernel_rfl) (by kernel_rfl) (by exact fun _ _ _ h => h) (Or.inl ⟨by rfl, ?_⟩) (by assumption) ?_; rotate_left; focus (intro w hSw; (try dsimp only at hSw); first | (go_simp; done) | (go_simp; with_reducible rfl))
          try simp only [Act.put, List.setIfInBounds_toArray, List.set_cons_zero, List.set_cons_succ]
          refine wpAnyH_take (i := 44) (v := ?_) (by simp only [List.getElem?_toArray, List.getElem?_cons_succ, List.getElem?_cons_zero]; rfl) (by kernel_rfl) (by kernel_rfl) (by kernel_rfl) (by exact fun _ _ _ h => h) (Or.inl ⟨by rfl, ?_⟩) (by assumption) ?_; rotate_left; focus (intro w hSw; (try dsimp only at hSw); first | (go_simp; done) | (go_simp; with_reducible rfl))
          try simp only [Act.put, List.setIfInBounds_toArray, List.set_cons_zero, List.set_cons_succ]
          refine wpAnyH_take (i := 45) (v := ?_) (by simp only [List.getElem?_toArray, List.getElem?_cons_succ, List.getElem?_cons_zero]; rfl) (by kernel_rfl) (by kernel_rfl) (by kernel_rfl) (by exact fun _ _ _ h => h) (Or.inl ⟨by rfl, ?_⟩) (by assumption) ?_; rotate_left; focus (intro w hSw; (try dsimp only at hSw); first | (go_simp; done) | (go_simp; with_reducible rfl))
          try simp only [Act.put, List.setIfInBounds_toArray, List.set_cons_zero, List.set_cons_succ]
          refine wpAnyH_take (i := 46) (v := ?_) (by simp only [List.getElem?_toArray, List.getElem?_cons_succ, List.getElem?_cons_zero]; rfl) (by kernel_rfl) (by kernel_rfl) (by kernel_rfl) (by exact fun _ _ _ h => h) (Or.inl ⟨by rfl, ?_⟩) (by assumption) ?_; rotate_left; focus (intro w hSw; (try dsimp only at hSw); first | (go_simp; done) | (go_simp; with_reducible rfl))
          try simp only [Act.put, List.setIfInBounds_toArray, List.set_cons_zero, List.set_cons_succ]
          refine wpAnyH_take (i := 47) (v := ?_) (by simp only [List.getElem?_toArray, List.getElem?_cons_succ, List.getElem?_cons_zero]; rfl) (by kernel_rfl) (by kernel_rfl) (by kernel_rfl) (by exact fun _ _ _ h => h) (Or.inl ⟨by rfl, ?_⟩) (by assumption) ?_; rotate_left; focus (intro w hSw; (try dsimp only at hSw); first | (go_simp; done) | (go_simp; with_reducible rfl))
          try simp only [Act.put, List.setIfInBounds_toArray, List.set_cons_zero, List.set_cons_succ]
          refine wpAnyH_take (i := 48) (v := ?_) (by simp only [List.getElem?_toArray, List.getElem?_cons_succ, List.getElem?_cons_zero]; rfl) (by kernel_rfl) (by kernel_rfl) (by kernel_rfl) (by exact fun _ _ _ h => h) (Or.inl ⟨by rfl, ?_⟩) (by assumption) ?_; rotate_left; focus (intro w hSw; (try dsimp only at hSw); first | (go_simp; done) | (go_simp; with_reducible rfl))
          try simp only [Act.put, List.setIfInBounds_toArray, List.set_cons_zero, List.set_cons_succ]
          refine wpAnyH_ready (rs := [40]) (by kernel_rfl) (by simp) ?_
          refine AllReadyH.cons rfl (fun K hK => ?_) AllReadyH.nil
          rw [if_pos (by rfl)]
          go_simp
          go_at_call 20
          have kB := hHeld.2.2.2.2.2.2.2.2.2.2.2.2.2.2.2.2
          refine (implOverlaps p q _).mono ?_
          rw [HO.out]
          rintro e wq40 ⟨rfl, hbk⟩
          have HBK := kB.out.trans (hbk.mono kB.out.size)
          have QS := Lib.hid (show wq40.cell? ⟨w1.heap.size, 0, none⟩ = some (.slice A0 n0 c0) ∧ wq40.cell? ⟨w1.heap.size, 1, none⟩ = some (.slice A1 n1 c1) ∧ wq40.cell? ⟨w1.heap.size + 1, 0, none⟩ = some (.int .i64 r.gap) ∧ wq40.cell? ⟨w1.heap.size + 1, 1, none⟩ = some (.bool r.noMeet) ∧ wq40.cell? ⟨gs, 0, none⟩ = some (.int .i64 (r.gap + z)) ∧ wq40.cell? ⟨gs, 1, none⟩ = some (.bool true) ∧ wq40.cell? ⟨gl, ol + a * 5, none⟩ = some (.int .i64 p.ship) ∧ wq40.cell? ⟨gl, ol + a * 5 + 1, none⟩ = some (.int .i64 p.segment) ∧ wq40.cell? ⟨gl, ol + a * 5 + 2, none⟩ = some (.bool p.toward) ∧ wq40.cell? ⟨gl, ol + a * 5 + 3, none⟩ = some (.int .i64 p.start) ∧ wq40.cell? ⟨gl, ol + a * 5 + 4, none⟩ = some (.int .i64 p.stop) ∧ wq40.cell? ⟨gl, ol + b * 5, none⟩ = some (.int .i64 q.ship) ∧ wq40.cell? ⟨gl, ol + b * 5 + 1, none⟩ = some (.int .i64 q.segment) ∧ wq40.cell? ⟨gl, ol + b * 5 + 2, none⟩ = some (.bool q.toward) ∧ wq40.cell? ⟨gl, ol + b * 5 + 3, none⟩ = some (.int .i64 q.start) ∧ wq40.cell? ⟨gl, ol + b * 5 + 4, none⟩ = some (.int .i64 q.stop) ∧ Hid (Below w7.heap.size w7 wq40) from ⟨cell_onV FKH0.out HBK, cell_onV FKH1.out HBK, cell_onV FKR0.out HBK, cell_onV FKR1.out HBK, cell_onV FKS0.out HBK, cell_onV FKS1.out HBK, cell_onV Gp0.out HBK, cell_onV Gp1.out HBK, cell_onV Gp2.out HBK, cell_onV Gp3.out HBK, cell_onV Gp4.out HBK, cell_onV Gq0.out HBK, cell_onV Gq1.out HBK, cell_onV Gq2.out HBK, cell_onV Gq3.out HBK, cell_onV Gq4.out HBK, Lib.hid HBK⟩)
          clear hbk kB hHeld HBK
          go_simp
          refine hK.out _ _ ?_ (fun hHeld => ?_)
          · (try dsimp only); exact QS.out
          clear hK K
          try simp only [Act.put, List.setIfInBounds_toArray, List.set_cons_zero, List.set_cons_succ]
          refine wpAnyH_ready (rs := [49]) (by kernel_rfl) (by simp) ?_
          refine AllReadyH.cons rfl (fun K hK => ?_) AllReadyH.nil
          rw [if_pos (by rfl)]
          go_simp
          go_at_call 20
          have kB := hHeld.2.2.2.2.2.2.2.2.2.2.2.2.2.2.2.2
          refine (implOverlaps q p _).mono ?_
          rw [HO2.out]
          rintro e wq49 ⟨rfl, hbk⟩
          have HBK := kB.out.trans (hbk.mono kB.out.size)
          have QS := Lib.hid (show wq49.cell? ⟨w1.heap.size, 0, none⟩ = some (.slice A0 n0 c0) ∧ wq49.cell? ⟨w1.heap.size, 1, none⟩ = some (.slice A1 n1 c1) ∧ wq49.cell? ⟨w1.heap.size + 1, 0, none⟩ = some (.int .i64 r.gap) ∧ wq49.cell? ⟨w1.heap.size + 1, 1, none⟩ = some (.bool r.noMeet) ∧ wq49.cell? ⟨gs, 0, none⟩ = some (.int .i64 (r.gap + z)) ∧ wq49.cell? ⟨gs, 1, none⟩ = some (.bool true) ∧ wq49.cell? ⟨gl, ol + a * 5, none⟩ = some (.int .i64 p.ship) ∧ wq49.cell? ⟨gl, ol + a * 5 + 1, none⟩ = some (.int .i64 p.segment) ∧ wq49.cell? ⟨gl, ol + a * 5 + 2, none⟩ = some (.bool p.toward) ∧ wq49.cell? ⟨gl, ol + a * 5 + 3, none⟩ = some (.int .i64 p.start) ∧ wq49.cell? ⟨gl, ol + a * 5 + 4, none⟩ = some (.int .i64 p.stop) ∧ wq49.cell? ⟨gl, ol + b * 5, none⟩ = some (.int .i64 q.ship) ∧ wq49.cell? ⟨gl, ol + b * 5 + 1, none⟩ = some (.int .i64 q.segment) ∧ wq49.cell? ⟨gl, ol + b * 5 + 2, none⟩ = some (.bool q.toward) ∧ wq49.cell? ⟨gl, ol + b * 5 + 3, none⟩ = some (.int .i64 q.start) ∧ wq49.cell? ⟨gl, ol + b * 5 + 4, none⟩ = some (.int .i64 q.stop) ∧ Hid (Below w7.heap.size w7 wq49) from ⟨cell_onV FKH0.out HBK, cell_onV FKH1.out HBK, cell_onV FKR0.out HBK, cell_onV FKR1.out HBK, cell_onV FKS0.out HBK, cell_onV FKS1.out HBK, cell_onV Gp0.out HBK, cell_onV Gp1.out HBK, cell_onV Gp2.out HBK, cell_onV Gp3.out HBK, cell_onV Gp4.out HBK, cell_onV Gq0.out HBK, cell_onV Gq1.out HBK, cell_onV Gq2.out HBK, cell_onV Gq3.out HBK, cell_onV Gq4.out HBK, Lib.hid HBK⟩)
          clear hbk kB hHeld HBK
          go_simp
          refine hK.out _ _ ?_ (fun hHeld => ?_)
          · (try dsimp only); exact QS.out
          clear hK K
          try simp only [Act.put, List.setIfInBounds_toArray, List.set_cons_zero, List.set_cons_succ]
          refine wpAnyH_take (i := 50) (v := ?_) (by simp only [List.getElem?_toArray, List.getElem?_cons_succ, List.getElem?_cons_zero]; rfl) (by kernel_rfl) (by kernel_rfl) (by kernel_rfl) (by exact fun _ _ _ h => h) (Or.inl ⟨by rfl, ?_⟩) (by assumption) ?_; rotate_left; focus (intro w hSw; (try dsimp only at hSw); first | (go_simp; done) | (go_simp; with_reducible rfl))
          try simp only [Act.put, List.setIfInBounds_toArray, List.set_cons_zero, List.set_cons_succ]
          refine wpAnyH_take (i := 51) (v := ?_) (by simp only [List.getElem?_toArray, List.getElem?_cons_succ, List.getElem?_cons_zero]; rfl) (by kernel_rfl) (by kernel_rfl) (by kernel_rfl) (by exact fun _ _ _ h => h) (Or.inl ⟨by rfl, ?_⟩) (by assumption) ?_; rotate_left; focus (intro w hSw; (try dsimp only at hSw); first | (go_simp; done) | (go_simp; with_reducible rfl))
          try simp only [Act.put, List.setIfInBounds_toArray, List.set_cons_zero, List.set_cons_succ]
          refine wpAnyH_done (by kernel_rfl) ?_ _
          have hb8 := hHeld.2.2.2.2.2.2.2.2.2.2.2.2.2.2.2.2.out
          clear hHeld DD vFKH0 FKH0 vFKH1 FKH1 vFKR0 FKR0 vFKR1 FKR1 vFKS0 FKS0 vFKS1 FKS1 vGp0 vGp1 vGp2 vGp3 vGp4 vGq0 vGq1 vGq2 vGq3 vGq4
          obtain ⟨w8, hw8⟩ : ∃ X, X = wq49 := ⟨_, rfl⟩
          rw [← hw8] at hb8 ⊢
          clear hw8
          have hbo8 := Lib.hid (hbo7.out.trans (hb8.mono hbo7.out.size))
          have HC8 := Lib.hid (HC7.out.below hb8)
          have RD8 := Lib.hid (RD7.out.below hb8)
          have RL8 := Lib.hid (SlPassage.below RL7.out hb8)
          have KH8 := Lib.hid (KH7.out.below hb8)
          have KR8 := Lib.hid (KR7.out.below hb8)
          have KS8 := Lib.hid (KS7.out.below hb8)
          have B8 := Lib.hid (B7.out.trans (hb8.mono B7.out.size))
          have RA8 := Lib.hid (SlOf.below RA.out hb8)
          have RB8 := Lib.hid (SlOf.below RB.out hb8)
          clear hb8
          go_upto_region 17 with fail
          have u0 := HL.out
          have u1 : a + 1 ≤ cc := by omega
          have u2 : b ≤ L := by omega
          have u3 : b ≤ cc := by omega
          have u4 : L ≤ cc := by omega
          have u5 : (0 : Int) ≤ (a : Int) + 1 := by omega
          have u6 : (a : Int) + 1 ≤ (cc : Int) := by omega
          have u7 : ¬ cc = a := by omega
          have u8 : ¬ cc = b := by omega
          clear u0
          have wa1 : IntKind.i64.wrap ((a : Int) + 1) = ((a + 1 : Nat) : Int) := by rw [IntKind.wrap_i64]; omega
          have FKH0 := Lib.hid (show w8.cell? ⟨w1.heap.size, 0, none⟩ = some (.slice A0 n0 c0) from KH8.out.cell 0)
          have FKH1 := Lib.hid (show w8.cell? ⟨w1.heap.size, 1, none⟩ = some (.slice A1 n1 c1) from KH8.out.cell 1)
          have FKR0 := Lib.hid (show w8.cell? ⟨w1.heap.size + 1, 0, none⟩ = some (.int .i64 r.gap) from KR8.out.cell 0)
          have FKR1 := Lib.hid (show w8.cell? ⟨w1.heap.size + 1, 1, none⟩ = some (.bool r.noMeet) from KR8.out.cell 1)
          have DD := Lib.hid ((Below.refl w8.heap.size w8).drew)
          have vFKH0 := FKH0.out
          have vFKH1 := FKH1.out
          have vFKR0 := FKR0.out
          have vFKR1 := FKR1.out
          refine wp_region_held_drew (S := (fun w' => w'.cell? ⟨w1.heap.size, 0, none⟩ = some (.slice A0 n0 c0) ∧ w'.cell? ⟨w1.heap.size, 1, none⟩ = some (.slice A1 n1 c1) ∧ w'.cell? ⟨w1.heap.size + 1, 0, none⟩ = some (.int .i64 r.gap) ∧ w'.cell? ⟨w1.heap.size + 1, 1, none⟩ = some (.bool r.noMeet) ∧ Hid (Below w8.heap.size w8 w'))) (by kernel_rfl) ?_ (fun hHeld => ?_)
          · (try dsimp only); go_keep
          refine wpAnyH_take (i := 0) (v := ?_) (by simp only [List.getElem?_toArray, List.getElem?_cons_zero]; rfl) (by kernel_rfl) (by kernel_rfl) (by kernel_rfl) (by exact fun _ _ _ h => h) (Or.inl ⟨by rfl, ?_⟩) (by assumption) ?_; rotate_left; focus (intro w hSw; (try dsimp only at hSw); first | (go_simp; done) | (go_simp; with_reducible rfl))
          try simp only [Act.put, List.setIfInBounds_toArray, List.set_cons_zero, List.set_cons_succ]
          refine wpAnyH_take (i := 1) (v := ?_) (by simp only [List.getElem?_toArray, List.getElem?_cons_succ, List.getElem?_cons_zero]; rfl) (by kernel_rfl) (by kernel_rfl) (by kernel_rfl) (by exact fun _ _ _ h => h) (Or.inl ⟨by rfl, ?_⟩) (by assumption) ?_; rotate_left; focus (intro w hSw; (try dsimp only at hSw); first | (go_simp; done) | (go_simp; with_reducible rfl))
          try simp only [Act.put, List.setIfInBounds_toArray, List.set_cons_zero, List.set_cons_succ]
          refine wpAnyH_take (i := 2) (v := ?_) (by simp only [List.getElem?_toArray, List.getElem?_cons_succ, List.getElem?_cons_zero]; rfl) (by kernel_rfl) (by kernel_rfl) (by kernel_rfl) (by exact fun _ _ _ h => h) (Or.inl ⟨by rfl, ?_⟩) (by assumption) ?_; rotate_left; focus (intro w hSw; (try dsimp only at hSw); first | (go_simp; done) | (go_simp; with_reducible rfl))
          try simp only [Act.put, List.setIfInBounds_toArray, List.set_cons_zero, List.set_cons_succ]
          refine wpAnyH_take (i := 3) (v := ?_) (by simp only [List.getElem?_toArray, List.getElem?_cons_succ, List.getElem?_cons_zero]; rfl) (by kernel_rfl) (by kernel_rfl) (by kernel_rfl) (by exact fun _ _ _ h => h) (Or.inl ⟨by rfl, ?_⟩) (by assumption) ?_; rotate_left; focus (intro w hSw; (try dsimp only at hSw); first | (go_simp; done) | (go_simp; with_reducible rfl))
          try simp only [Act.put, List.setIfInBounds_toArray, List.set_cons_zero, List.set_cons_succ]
          refine wpAnyH_take (i := 4) (v := ?_) (by simp only [List.getElem?_toArray, List.getElem?_cons_succ, List.getElem?_cons_zero]; rfl) (by kernel_rfl) (by kernel_rfl) (by kernel_rfl) (by exact fun _ _ _ h => h) (Or.inl ⟨by rfl, ?_⟩) (by assumption) ?_; rotate_left; focus (intro w hSw; (try dsimp only at hSw); first | (go_simp; done) | (go_simp; with_reducible rfl))
          try simp only [Act.put, List.setIfInBounds_toArray, List.set_cons_zero, List.set_cons_succ]
          refine wpAnyH_take (i := 5) (v := ?_) (by simp only [List.getElem?_toArray, List.getElem?_cons_succ, List.getElem?_cons_zero]; rfl) (by kernel_rfl) (by kernel_rfl) (by kernel_rfl) (by exact fun _ _ _ h => h) (Or.inl ⟨by rfl, ?_⟩) (by assumption) ?_; rotate_left; focus (intro w hSw; (try dsimp only at hSw); first | (go_simp; done) | (go_simp; with_reducible rfl))
          try simp only [Act.put, List.setIfInBounds_toArray, List.set_cons_zero, List.set_cons_succ]
          refine wpAnyH_take (i := 6) (v := ?_) (by simp only [List.getElem?_toArray, List.getElem?_cons_succ, List.getElem?_cons_zero]; rfl) (by kernel_rfl) (by kernel_rfl) (by kernel_rfl) (by exact fun _ _ _ h => h) (Or.inl ⟨by rfl, ?_⟩) (by assumption) ?_; rotate_left; focus (intro w hSw; (try dsimp only at hSw); first | (go_simp; done) | (go_simp; with_reducible rfl))
          try simp only [Act.put, List.setIfInBounds_toArray, List.set_cons_zero, List.set_cons_succ]
          refine wpAnyH_take (i := 7) (v := ?_) (by simp only [List.getElem?_toArray, List.getElem?_cons_succ, List.getElem?_cons_zero]; rfl) (by kernel_rfl) (by kernel_rfl) (by kernel_rfl) (by exact fun _ _ _ h => h) (Or.inl ⟨by rfl, ?_⟩) (by assumption) ?_; rotate_left; focus (intro w hSw; (try dsimp only at hSw); first | (go_simp; done) | (go_simp; with_reducible rfl))
          try simp only [Act.put, List.setIfInBounds_toArray, List.set_cons_zero, List.set_cons_succ]
          refine wpAnyH_take (i := 8) (v := ?_) (by simp only [List.getElem?_toArray, List.getElem?_cons_succ, List.getElem?_cons_zero]; rfl) (by kernel_rfl) (by kernel_rfl) (by kernel_rfl) (by exact fun _ _ _ h => h) (Or.inl ⟨by rfl, ?_⟩) (by assumption) ?_; rotate_left; focus (intro w hSw; (try dsimp only at hSw); first | (go_simp; done) | (go_simp; with_reducible rfl))
          try simp only [Act.put, List.setIfInBounds_toArray, List.set_cons_zero, List.set_cons_succ]
          refine wpAnyH_take (i := 9) (v := ?_) (by simp only [List.getElem?_toArray, List.getElem?_cons_succ, List.getElem?_cons_zero]; rfl) (by kernel_rfl) (by kernel_rfl) (by kernel_rfl) (by exact fun _ _ _ h => h) (Or.inl ⟨by rfl, ?_⟩) (by assumption) ?_; rotate_left; focus (intro w hSw; (try dsimp only at hSw); first | (go_simp; done) | (go_simp; with_reducible rfl))
          try simp only [Act.put, List.setIfInBounds_toArray, List.set_cons_zero, List.set_cons_succ]
          refine wpAnyH_take (i := 10) (v := ?_) (by simp only [List.getElem?_toArray, List.getElem?_cons_succ, List.getElem?_cons_zero]; rfl) (by kernel_rfl) (by kernel_rfl) (by kernel_rfl) (by exact fun _ _ _ h => h) (Or.inl ⟨by rfl, ?_⟩) (by assumption) ?_; rotate_left; focus (intro w hSw; (try dsimp only at hSw); first | (go_simp; done) | (go_simp; with_reducible rfl))
          try simp only [Act.put, List.setIfInBounds_toArray, List.set_cons_zero, List.set_cons_succ]
          refine wpAnyH_take (i := 11) (v := ?_) (by simp only [List.getElem?_toArray, List.getElem?_cons_succ, List.getElem?_cons_zero]; rfl) (by kernel_rfl) (by kernel_rfl) (by kernel_rfl) (by exact fun _ _ _ h => h) (Or.inl ⟨by rfl, ?_⟩) (by assumption) ?_; rotate_left; focus (intro w hSw; (try dsimp only at hSw); first | (go_simp; done) | (go_simp; with_reducible rfl))
          try simp only [Act.put, List.setIfInBounds_toArray, List.set_cons_zero, List.set_cons_succ]
          refine wpAnyH_take (i := 12) (v := ?_) (by simp only [List.getElem?_toArray, List.getElem?_cons_succ, List.getElem?_cons_zero]; rfl) (by kernel_rfl) (by kernel_rfl) (by kernel_rfl) (by exact fun _ _ _ h => h) (Or.inl ⟨by rfl, ?_⟩) (by assumption) ?_; rotate_left; focus (intro w hSw; (try dsimp only at hSw); first | (go_simp; done) | (go_simp; with_reducible rfl))
          try simp only [Act.put, List.setIfInBounds_toArray, List.set_cons_zero, List.set_cons_succ]
          refine wpAnyH_take (i := 13) (v := ?_) (by simp only [List.getElem?_toArray, List.getElem?_cons_succ, List.getElem?_cons_zero]; rfl) (by kernel_rfl) (by kernel_rfl) (by kernel_rfl) (by exact fun _ _ _ h => h) (Or.inl ⟨by rfl, ?_⟩) (by assumption) ?_; rotate_left; focus (intro w hSw; (try dsimp only at hSw); first | (go_simp; done) | (go_simp; with_reducible rfl))
          try simp only [Act.put, List.setIfInBounds_toArray, List.set_cons_zero, List.set_cons_succ]
          refine wpAnyH_take (i := 14) (v := ?_) (by simp only [List.getElem?_toArray, List.getElem?_cons_succ, List.getElem?_cons_zero]; rfl) (by kernel_rfl) (by kernel_rfl) (by kernel_rfl) (by exact fun _ _ _ h => h) (Or.inl ⟨by rfl, ?_⟩) (by assumption) ?_; rotate_left; focus (intro w hSw; (try dsimp only at hSw); first | (go_simp; done) | (go_simp; with_reducible rfl))
          try simp only [Act.put, List.setIfInBounds_toArray, List.set_cons_zero, List.set_cons_succ]
          refine wpAnyH_take (i := 15) (v := ?_) (by simp only [List.getElem?_toArray, List.getElem?_cons_succ, List.getElem?_cons_zero]; rfl) (by kernel_rfl) (by kernel_rfl) (by kernel_rfl) (by exact fun _ _ _ h => h) (Or.inl ⟨by rfl, ?_⟩) (by assumption) ?_; rotate_left; focus (intro w hSw; (try dsimp only at hSw); first | (go_simp; done) | (go_simp; with_reducible rfl))
          try simp only [Act.put, List.setIfInBounds_toArray, List.set_cons_zero, List.set_cons_succ]
          refine wpAnyH_take (i := 16) (v := ?_) (by simp only [List.getElem?_toArray, List.getElem?_cons_succ, List.getElem?_cons_zero]; rfl) (by kernel_rfl) (by kernel_rfl) (by kernel_rfl) (by exact fun _ _ _ h => h) (Or.inl ⟨by rfl, ?_⟩) (by assumption) ?_; rotate_left; focus (intro w hSw; (try dsimp only at hSw); first | (go_simp; done) | (go_simp; with_reducible rfl))
          try simp only [Act.put, List.setIfInBounds_toArray, List.set_cons_zero, List.set_cons_succ]
          refine wpAnyH_take (i := 17) (v := ?_) (by simp only [List.getElem?_toArray, List.getElem?_cons_succ, List.getElem?_cons_zero]; rfl) (by kernel_rfl) (by kernel_rfl) (by kernel_rfl) (by exact fun _ _ _ h => h) (Or.inl ⟨by rfl, ?_⟩) (by assumption) ?_; rotate_left; focus (intro w hSw; (try dsimp only at hSw); first | (go_simp; done) | (go_simp; with_reducible rfl))
          try simp only [Act.put, List.setIfInBounds_toArray, List.set_cons_zero, List.set_cons_succ]
          refine wpAnyH_take (i := 18) (v := ?_) (by simp only [List.getElem?_toArray, List.getElem?_cons_succ, List.getElem?_cons_zero]; rfl) (by kernel_rfl) (by kernel_rfl) (by kernel_rfl) (by exact fun _ _ _ h => h) (Or.inl ⟨by rfl, ?_⟩) (by assumption) ?_; rotate_left; focus (intro w hSw; (try dsimp only at hSw); first | (go_simp; done) | (go_simp; with_reducible rfl))
          try simp only [Act.put, List.setIfInBounds_toArray, List.set_cons_zero, List.set_cons_succ]
          refine wpAnyH_take (i := 19) (v := ?_) (by simp only [List.getElem?_toArray, List.getElem?_cons_succ, List.getElem?_cons_zero]; rfl) (by kernel_rfl) (by kernel_rfl) (by kernel_rfl) (by exact fun _ _ _ h => h) (Or.inl ⟨by rfl, ?_⟩) (by assumption) ?_; rotate_left; focus (intro w hSw; (try dsimp only at hSw); first | (go_simp; done) | (go_simp; with_reducible rfl))
          try simp only [Act.put, List.setIfInBounds_toArray, List.set_cons_zero, List.set_cons_succ]
          refine wpAnyH_take (i := 20) (v := ?_) (by simp only [List.getElem?_toArray, List.getElem?_cons_succ, List.getElem?_cons_zero]; rfl) (by kernel_rfl) (by kernel_rfl) (by kernel_rfl) (by exact fun _ _ _ h => h) (Or.inl ⟨by rfl, ?_⟩) (by assumption) ?_; rotate_left; focus (intro w hSw; (try dsimp only at hSw); first | (go_simp; done) | (go_simp; with_reducible rfl))
          try simp only [Act.put, List.setIfInBounds_toArray, List.set_cons_zero, List.set_cons_succ]
          refine wpAnyH_ready (rs := [21]) (by kernel_rfl) (by simp) ?_
          refine AllReadyH.cons rfl (fun K hK => ?_) AllReadyH.nil
          rw [if_pos (by rfl)]
          go_simp
          go_at_call 21
          have kB := hHeld.2.2.2.2
          refine (implClashes _ _ d r _ [p] _ (l.drop b) _ (RD8.out.below kB.out) (SlOf.below RA8.out kB.out) (SlOf.below RB8.out kB.out) NM.out WA.out WB.out).mono ?_
          rw [HCS.out]
          rintro e wq21 ⟨rfl, hbk⟩
          have HBK := kB.out.trans (hbk.mono kB.out.size)
          have QS := Lib.hid (show wq21.cell? ⟨w1.heap.size, 0, none⟩ = some (.slice A0 n0 c0) ∧ wq21.cell? ⟨w1.heap.size, 1, none⟩ = some (.slice A1 n1 c1) ∧ wq21.cell? ⟨w1.heap.size + 1, 0, none⟩ = some (.int .i64 r.gap) ∧ wq21.cell? ⟨w1.heap.size + 1, 1, none⟩ = some (.bool r.noMeet) ∧ Hid (Below w8.heap.size w8 wq21) from ⟨cell_onV FKH0.out HBK, cell_onV FKH1.out HBK, cell_onV FKR0.out HBK, cell_onV FKR1.out HBK, Lib.hid HBK⟩)
          clear hbk kB hHeld HBK
          go_simp
          refine hK.out _ _ ?_ (fun hHeld => ?_)
          · (try dsimp only); exact QS.out
          clear hK K
          try simp only [Act.put, List.setIfInBounds_toArray, List.set_cons_zero, List.set_cons_succ]
          refine wpAnyH_take (i := 22) (v := ?_) (by simp only [List.getElem?_toArray, List.getElem?_cons_succ, List.getElem?_cons_zero]; rfl) (by kernel_rfl) (by kernel_rfl) (by kernel_rfl) (by exact fun _ _ _ h => h) (Or.inl ⟨by rfl, ?_⟩) (by assumption) ?_; rotate_left; focus (intro w hSw; (try dsimp only at hSw); first | (go_simp; done) | (go_simp; with_reducible rfl))
          try simp only [Act.put, List.setIfInBounds_toArray, List.set_cons_zero, List.set_cons_succ]
          refine wpAnyH_take (i := 23) (v := ?_) (by simp only [List.getElem?_toArray, List.getElem?_cons_succ, List.getElem?_cons_zero]; rfl) (by kernel_rfl) (by kernel_rfl) (by kernel_rfl) (by exact fun _ _ _ h => h) (Or.inl ⟨by rfl, ?_⟩) (by assumption) ?_; rotate_left; focus (intro w hSw; (try dsimp only at hSw); first | (go_simp; done) | (go_simp; with_reducible rfl))
          try simp only [Act.put, List.setIfInBounds_toArray, List.set_cons_zero, List.set_cons_succ]
          refine wpAnyH_take (i := 24) (v := ?_) (by simp only [List.getElem?_toArray, List.getElem?_cons_succ, List.getElem?_cons_zero]; rfl) (by kernel_rfl) (by kernel_rfl) (by kernel_rfl) (by exact fun _ _ _ h => h) (Or.inl ⟨by rfl, ?_⟩) (by assumption) ?_; rotate_left; focus (intro w hSw; (try dsimp only at hSw); first | (go_simp; done) | (go_simp; with_reducible rfl))
          try simp only [Act.put, List.setIfInBounds_toArray, List.set_cons_zero, List.set_cons_succ]
          refine wpAnyH_done (by kernel_rfl) ?_ _
          have hb9 := hHeld.2.2.2.2.out
          clear hHeld DD vFKH0 FKH0 vFKH1 FKH1 vFKR0 FKR0 vFKR1 FKR1
          have hbo9 := Lib.hid (hbo8.out.trans (hb9.mono hbo8.out.size))
          clear hb9
          go_wp2
          go_roundw
          case rel => exact ⟨a + 1, by omega, by go_num, hbo9⟩
          case measure => simp [intOf]; omega

set_option maxRecDepth 100000 in
theorem lifted (os : Os) (started : os.Started) (H : Type) (enc : TypeId × Value → H) :
    ReturnsInHanded {} Try.checked os 3 .any (Rows.fnConflictsSpec.pre6 enc Try.prog Try.f3 Rows.fnConflictsRow.domain false) (Rows.fnConflictsSpec.post enc Try.prog Try.f3 false true false false) := by
  refine returnsInHanded_of_change (C := Try.checked) own started (by kernel_rfl) Try.func3
    (ChangeSpec.witness6 (enc := enc) (C := Try.checked) false ⟨#[], #[.slice none 0 0], []⟩ 8 (by kernel_rfl) (by kernel_rfl) (by kernel_rfl) (by kernel_rfl)) ?_
  intro W base args ds gs before hval0 hW _ _
  have hval : ∀ (j : Nat) t v, Try.f3.params[j]? = some t → args[j]? = some v → Value.okWide Try.prog W .any base t v := hval0
  have hW' := hW
  obtain ⟨p, q, hA0, hV, rfl, _, _⟩ := hW
  have hA : DataW.TrodAll enc Try.prog W 0 (fun _ => true) true Try.f3.params.toList args.toList ds p := hA0
  rw [Try.params3] at hA hval
  obtain ⟨v0, vs0, d0, ds0, p0, q0, hargs, rfl, rfl, h0, r0⟩ := trodAll_cons hA
  obtain ⟨rfl, rfl, rfl⟩ := trodAll_nil r0
  obtain rfl : args = #[v0] := by cases args; simp_all
  obtain ⟨A0, n0, c0, rfl, g0⟩ := open_code_arg (hval 0 22 v0 rfl rfl) h0
  refine (law A0 n0 c0 W g0).mono fun e W' ⟨he, hb⟩ => ⟨_, he, ?_⟩
  exact law_post laidOut (by kernel_rfl) rfl (by kernel_rfl) Try.underlying4 rfl rfl rfl hW' hb

theorem holds : Rows.FnConflictsSaid :=
  OpenClaim.holds_of_wide 3 Try.f3 rfl rfl rfl rfl rfl rfl rfl ⟨rfl, rfl, rfl, rfl, rfl⟩ rfl rfl rfl rfl rfl (by kernel_rfl) Try.func3 (by kernel_rfl)
    (of_decide_eq_true (by kernel_rfl)) (by unfold Func.isWrapper; first | (rw [if_pos (by decide +kernel)]; kernel_rfl) | (rw [if_neg (by decide +kernel)]; exact ⟨rfl, rfl⟩))
    (fun os started H enc _ => lifted os started H enc)

end Go.Proofs.Ytpglaffmmddcdaa.lawConflicts

