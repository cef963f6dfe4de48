
/- What ExactRivalDuties and Dilworth and CoversLaw rests on, part 8: contracts and mathematics. -/
import Derived.Test.YtfofbnpgjdagkaaCv7
import Derived.Test.YtfofbnpgjdagkaaCv5
import Derived.Test.YtfofbnpgjdagkaaCv1
import Derived.Test.YtfofbnpgjdagkaaCv0
import Derived.Deep.DeepCutAuto
import Derived.Test.YtfofbnpgjdagkaaCv3
import Derived.Deep.RegionHeld3
namespace Go.Proofs.Ytfofbnpgjdagkaa
open Go.RowKit
set_option maxRecDepth 100000
set_option maxHeartbeats 4000000 in
theorem specDuty (d : DutyD) (w : World) : Calls Try.prog 51 #[d.val] w fun e w' => e = .returned (.bool (dutyB d)) ∧ Below w.heap.size w w' := by
  have bl := Joins.below_alloc1 w (.cells #[.int .i64 d.fr, .int .i64 d.tt, .int .i64 d.a, .int .i64 d.b] 35)
  have K := Blk.new w #[.int .i64 d.fr, .int .i64 d.tt, .int .i64 d.a, .int .i64 d.b] 35
  obtain ⟨W1, hW1⟩ : ∃ W, W = w.alloc (.cells #[.int .i64 d.fr, .int .i64 d.tt, .int .i64 d.a, .int .i64 d.b] 35) := ⟨_, rfl⟩
  rw [← hW1] at bl K
  have HW := Lib.hid hW1
  have B := Lib.hid bl
  have z0 : W1.cell? ⟨w.heap.size, 0, none⟩ = some (.int .i64 d.fr) := K.cell 0
  have z1 : W1.cell? ⟨w.heap.size, 1, none⟩ = some (.int .i64 d.tt) := K.cell 1
  have z2 : W1.cell? ⟨w.heap.size, 2, none⟩ = some (.int .i64 d.a) := K.cell 2
  have z3 : W1.cell? ⟨w.heap.size, 3, none⟩ = some (.int .i64 d.b) := K.cell 3
  obtain ⟨b1, hb1⟩ : ∃ b, inB d.fr 0 2880 = b := ⟨_, rfl⟩
  obtain ⟨b2, hb2⟩ : ∃ x, decide (d.fr < d.tt) = x := ⟨_, rfl⟩
  obtain ⟨b3, hb3⟩ : ∃ x, decide (d.tt ≤ 2880) = x := ⟨_, rfl⟩
  obtain ⟨b4, hb4⟩ : ∃ b, inB d.a 0 7 = b := ⟨_, rfl⟩
  obtain ⟨b5, hb5⟩ : ∃ b, inB d.b 0 7 = b := ⟨_, rfl⟩
  have EF := Lib.hid (show dutyB d = (b1 && b2 && b3 && b4 && b5) by unfold dutyB; rw [hb1, hb2, hb3, hb4, hb5])
  have H1 := Lib.hid hb1
  have H4 := Lib.hid hb4
  have H5 := Lib.hid hb5
  have g2 := hb2
  have g3 := hb3
  clear bl K hW1 hb1 hb2 hb3 hb4 hb5
  go_enter Try.func51, Try.ntmps51
  go_wp2_with fail
  rw [← HW.out]
  refine (l01In_any _ _ _ _).mono ?_
  rw [H1.out]
  rintro e w3 ⟨rfl, rfl⟩
  cases b1 with
  | false =>
    go_wp2
    go_ret
    exact ⟨ret_bool (by rw [EF.out]; rfl), B.out⟩
  | true =>
  cases b2 with
  | false =>
    go_wp2
    go_ret
    exact ⟨ret_bool (by rw [EF.out]; rfl), B.out⟩
  | true =>
  cases b3 with
  | false =>
    go_wp2
    go_ret
    exact ⟨ret_bool (by rw [EF.out]; rfl), B.out⟩
  | true =>
  go_wp2_with fail
  refine (l01In_any _ _ _ _).mono ?_
  rw [H4.out]
  rintro e w3 ⟨rfl, rfl⟩
  cases b4 with
  | false =>
    go_wp2
    go_ret
    exact ⟨ret_bool (by rw [EF.out]; rfl), B.out⟩
  | true =>
  go_wp2_with fail
  refine (l01In_any _ _ _ _).mono ?_
  rw [H5.out]
  rintro e w3 ⟨rfl, rfl⟩
  go_wp2
  go_ret
  exact ⟨ret_bool (by rw [EF.out]; simp), B.out⟩
/-- The first k duties are valid. -/
def FirstD (l : List DutyD) (k : Nat) : Prop := (l.take k).all dutyB = true
theorem FirstD.next {l : List DutyD} {k : Nat} {x : DutyD} (h : FirstD l k) (hx : l[k]? = some x) (hb : dutyB x = true) : FirstD l (k + 1) := by
  unfold FirstD at h ⊢
  rw [take_snoc' l k x hx, List.all_append, h]
  simp [hb]
theorem dutiesB_no {l : List DutyD} {k : Nat} {x : DutyD} (hx : l[k]? = some x) (hb : dutyB x = false) : dutiesB l = false := by
  unfold dutiesB
  rw [Bool.and_eq_false_iff]
  right
  rw [List.all_eq_false]
  exact ⟨x, List.mem_of_getElem? hx, by rw [hb]; simp⟩
theorem dutiesB_long {l : List DutyD} (h : ¬ l.length ≤ 12) : dutiesB l = false := by unfold dutiesB; rw [decide_eq_false h]; rfl
theorem dutiesB_yes {l : List DutyD} (h : l.length ≤ 12) (hF : FirstD l l.length) : dutiesB l = true := by
  unfold FirstD at hF
  rw [List.take_length] at hF
  unfold dutiesB
  rw [decide_eq_true h, hF]
  rfl
set_option maxHeartbeats 4000000 in
theorem specDutiesOk (v : Value) (l : List DutyD) (w : World) (h : SlDuty w v l) :
    Calls Try.prog 22 #[v] w fun e w' => e = .returned (.bool (dutiesB l)) ∧ Below w.heap.size w w' := by
  have HS := Lib.hid h
  have hl := h.1
  obtain ⟨A1, c1, rfl⟩ := h.at
  clear h
  obtain ⟨m, hm⟩ : ∃ m, l.length = m := ⟨_, rfl⟩
  have HM := Lib.hid hm
  rw [hm] at hl ⊢
  clear hm
  by_cases h12 : 12 < m
  · have g12 : decide ((12 : Int) < (m : Int)) = true := decide_eq_true (by omega)
    have E := Lib.hid (dutiesB_long (l := l) (by rw [HM.out]; omega))
    go_enter Try.func22, Try.ntmps22
    go_wp2
    go_ret
    exact ⟨ret_bool E.out.symm, Below.refl _ _⟩
  have g12 : decide ((12 : Int) < (m : Int)) = false := decide_eq_false (by omega)
  go_enter Try.func22, Try.ntmps22
  go_wp2
  go_loopw [10] (fun i wr => ∃ k : Nat, k ≤ m ∧ i = .int .i64 (k : Int) ∧ Hid (FirstD l k) ∧ Hid (Below w.heap.size w wr)) (fun i _ => m - (intOf i).toNat)
  case atStart => exact ⟨0, Nat.zero_le _, rfl, Lib.hid rfl, Lib.hid (Below.refl _ _)⟩
  case round =>
    obtain ⟨k, hk, rfl, hF, hb⟩ := hrel
    have hzs := hb.out.size
    by_cases hlt : k < m
    rotate_left
    · obtain rfl : k = m := by omega
      have E := Lib.hid (dutiesB_yes (l := l) (by rw [HM.out]; omega) (by rw [HM.out]; exact hF.out))
      go_wp2
      go_ret
      exact ⟨ret_bool E.out.symm, hb.out⟩
    obtain ⟨x, hx⟩ : ∃ x, l[k]? = some x := ⟨_, List.getElem?_eq_getElem (by have := HM.out; omega)⟩
    have HX := Lib.hid hx
    rcases HS.out.2 with ⟨he, _⟩ | ⟨g, o, c', e, lpos, lcap, lc⟩
    · rw [he] at hx; simp at hx
    injection e with ea e2 e3
    subst ea
    clear e2 e3 lpos lcap
    obtain ⟨q0, q1, q2, q3⟩ := SlDuty.cells lc k x hx
    have y0 := cell_onV q0 hb.out
    have y1 := cell_onV q1 hb.out
    have y2 := cell_onV q2 hb.out
    have y3 := cell_onV q3 hb.out
    have B2 := Lib.hid (hb.out.alloc hzs (.cells #[.int .i64 x.fr, .int .i64 x.tt, .int .i64 x.a, .int .i64 x.b] 35))
    obtain ⟨t, ht⟩ : ∃ t, dutyB x = t := ⟨_, rfl⟩
    have HT := Lib.hid ht
    clear q0 q1 q2 q3 hx lc ht
    go_wp2_with fail
    refine (specDuty x _).mono ?_
    rw [HT.out]
    rintro e w3 ⟨rfl, hb3⟩
    have B3 := Lib.hid (B2.out.trans (hb3.mono B2.out.size))
    clear hb3 y0 y1 y2 y3
    cases t with
    | false =>
      have E := Lib.hid (dutiesB_no HX.out HT.out)
      go_wp2
      go_ret
      exact ⟨ret_bool E.out.symm, B3.out⟩
    | true =>
      have F2 := Lib.hid (hF.out.next HX.out HT.out)
      go_wp2
      go_roundw
      case rel => exact ⟨k + 1, by omega, by go_num, F2, B3⟩
      case measure => simp [intOf]; omega
def FirstV (l : List Int) (k : Nat) : Prop := (l.take k).all (fun n => inB n 0 240) = true
theorem FirstV.next {l : List Int} {k : Nat} {x : Int} (h : FirstV l k) (hx : l[k]? = some x) (hb : inB x 0 240 = true) : FirstV l (k + 1) := by
  unfold FirstV at h ⊢
  rw [take_snoc' l k x hx, List.all_append, h]
  simp [hb]
theorem tableB_no {p : Int} {l : List Int} {k : Nat} {x : Int} (hx : l[k]? = some x) (hb : inB x 0 240 = false) : tableB p l = false := by
  unfold tableB
  rw [Bool.and_eq_false_iff]
  right
  rw [List.all_eq_false]
  exact ⟨x, List.mem_of_getElem? hx, by rw [hb]; simp⟩
theorem tableB_off {p : Int} {l : List Int} (h : inB p 0 2880 = false ∨ l.length ≠ 64) : tableB p l = false := by
  unfold tableB
  rcases h with h | h
  · rw [h]; rfl
  · rw [decide_eq_false h, Bool.and_false]; rfl
theorem tableB_yes {p : Int} {l : List Int} (h1 : inB p 0 2880 = true) (h2 : l.length = 64) (hF : FirstV l l.length) : tableB p l = true := by
  unfold FirstV at hF
  rw [List.take_length] at hF
  unfold tableB
  rw [h1, decide_eq_true h2, hF]
  rfl
set_option maxHeartbeats 4000000 in
theorem specTable (p : Int) (v : Value) (l : List Int) (w : World) (h : SlInt w v l) :
    Calls Try.prog 53 #[.int .i64 p, v] w fun e w' => e = .returned (.bool (tableB p l)) ∧ Below w.heap.size w w' := by
  have HS := Lib.hid h
  have hl := h.1
  obtain ⟨A1, c1, rfl⟩ := h.at
  clear h
  obtain ⟨m, hm⟩ : ∃ m, l.length = m := ⟨_, rfl⟩
  have HM := Lib.hid hm
  rw [hm] at hl ⊢
  clear hm
  obtain ⟨b1, hb1⟩ : ∃ b, inB p 0 2880 = b := ⟨_, rfl⟩
  have H1 := Lib.hid hb1
  clear hb1
  go_enter Try.func53, Try.ntmps53
  go_wp2_with fail
  refine (l01In_any _ _ _ _).mono ?_
  rw [H1.out]
  rintro e w1 ⟨rfl, rfl⟩
  cases b1 with
  | false =>
    have E := Lib.hid (tableB_off (l := l) (.inl H1.out))
    go_wp2
    go_ret
    exact ⟨ret_bool E.out.symm, Below.refl _ _⟩
  | true =>
  by_cases h64 : m = 64
  rotate_left
  · have q : ((m : Int) == 64) = false := by simp; omega
    have E := Lib.hid (tableB_off (p := p) (l := l) (.inr (by rw [HM.out]; exact h64)))
    go_wp2
    go_ret
    exact ⟨ret_bool E.out.symm, Below.refl _ _⟩
  subst h64
  go_wp2
  go_loopw [17] (fun i wr => ∃ k : Nat, k ≤ 64 ∧ i = .int .i64 (k : Int) ∧ Hid (FirstV l k) ∧ Hid (Below w.heap.size w wr)) (fun i _ => 64 - (intOf i).toNat)
  case atStart => exact ⟨0, Nat.zero_le _, rfl, Lib.hid rfl, Lib.hid (Below.refl _ _)⟩
  case round =>
    obtain ⟨k, hk, rfl, hF, hb⟩ := hrel
    by_cases hlt : k < 64
    rotate_left
    · obtain rfl : k = 64 := by omega
      have E := Lib.hid (tableB_yes (p := p) (l := l) H1.out HM.out (by rw [HM.out]; exact hF.out))
      go_wp2
      go_ret
      exact ⟨ret_bool E.out.symm, hb.out⟩
    obtain ⟨x, hx⟩ : ∃ x, l[k]? = some x := ⟨_, List.getElem?_eq_getElem (by have := HM.out; omega)⟩
    have HX := Lib.hid hx
    rcases HS.out.2 with ⟨he, _⟩ | ⟨g, o, c', e, lpos, lcap, lc⟩
    · rw [he] at hx; simp at hx
    injection e with ea e2 e3
    subst ea
    clear e2 e3 lpos lcap
    have y0 := cell_onV (SlInt.cells lc k x hx) hb.out
    obtain ⟨t, ht⟩ : ∃ t, inB x 0 240 = t := ⟨_, rfl⟩
    have HT := Lib.hid ht
    clear hx lc ht
    go_wp2_with fail
    refine (l01In_any _ _ _ _).mono ?_
    rw [HT.out]
    rintro e w3 ⟨rfl, rfl⟩
    clear y0
    cases t with
    | false =>
      have E := Lib.hid (tableB_no (p := p) HX.out HT.out)
      go_wp2
      go_ret
      exact ⟨ret_bool E.out.symm, hb.out⟩
    | true =>
      have F2 := Lib.hid (hF.out.next HX.out HT.out)
      go_wp2
      go_roundw
      case rel => exact ⟨k + 1, by omega, by go_num, F2, hb⟩
      case measure => simp [intOf]; omega
end Go.Proofs.Ytfofbnpgjdagkaa
namespace Go.Proofs.Ytfofbnpgjdagkaa
open Go.RowKit
set_option maxRecDepth 100000
variable {α : Type} {k : Nat} {cs : α → List Value} {t : TypeId}
theorem apart_symm {v u : Value} (h : ApartV v u) : ApartV u v := fun g hg hg' => h g hg' hg
/-- Lists of one's own, no two in one block, over what has come since wd. -/
structure LivO {α : Type} (k : Nat) (cs : α → List Value) (t : TypeId) (wd x : World) (L : List (Nat × Value × List α)) : Prop where
  own : ∀ p ∈ L, OwnOf k cs t x wd.heap.size p.2.1 p.2.2
  ap : ∀ p ∈ L, ∀ q ∈ L, p ≠ q → ApartV p.2.1 q.2.1
  low : Below wd.heap.size wd x
theorem LivO.nil (w : World) : LivO k cs t w w [] := ⟨fun p hp => absurd hp (by simp), fun p hp => absurd hp (by simp), Below.refl _ _⟩
theorem LivO.build {wd x : World} {L : List (Nat × Value × List α)} (h : LivO k cs t wd x L) (hk : ∀ y, (cs y).length = k) (τ : Nat) (l : List α) (hl : l.length ≤ 1000000) :
    LivO k cs t wd (x.alloc (.cells (l.flatMap cs).toArray t)) ((τ, .slice (some ⟨x.heap.size, 0, none⟩) l.length l.length, l) :: L) := by
  have hb := Joins.below_alloc1 x (.cells (l.flatMap cs).toArray t)
  refine ⟨fun p hp => ?_, fun p hp q hq hne => ?_, h.low.trans (hb.mono h.low.size)⟩
  · rcases List.mem_cons.1 hp with rfl | hp
    · have h1 := World.ownsRow_lit (base := wd.heap.size) (e := t) (size := k) x (l.flatMap cs).toArray l.length h.low.size (by unfold maxLen; omega) (by simp [flat_len hk])
      unfold OwnOf
      exact h1
    · exact own_below (h.own p hp) hb
  · have hfar : ∀ q ∈ L, ApartV (.slice (some ⟨x.heap.size, 0, none⟩) l.length l.length) q.2.1 := fun q hq g hg hg' => by
      simp [Value.ownBlock] at hg
      have := own_range (h.own q hq) g hg'
      omega
    rcases List.mem_cons.1 hp with rfl | hp
    · rcases List.mem_cons.1 hq with rfl | hq
      · exact absurd rfl hne
      · exact hfar q hq
    · rcases List.mem_cons.1 hq with rfl | hq
      · exact apart_symm (hfar p hp)
      · exact h.ap p hp q hq hne
/-- One of them has been appended to. -/
theorem LivO.app {wd x x' : World} {L L' : List (Nat × Value × List α)} (h : LivO k cs t wd x L) {τ : Nat} {v : Value} {l m : List α} (hv : (τ, v, l) ∈ L) (τ' : Nat) {g n cap : Nat}
    (hown : OwnOf k cs t x' wd.heap.size (.slice (some ⟨g, 0, none⟩) n cap) m) (hgr : x.grownBy x' v.ownBlock) (hor : v.ownBlock = some g ∨ g = x.heap.size) (hL : ∀ q ∈ L', q ∈ L ∧ q.1 ≠ τ) :
    LivO k cs t wd x' ((τ', .slice (some ⟨g, 0, none⟩) n cap, m) :: L') := by
  have hfar : ∀ q ∈ L', ApartV (.slice (some ⟨g, 0, none⟩) n cap) q.2.1 := fun q hq j hj hj' => by
    simp [Value.ownBlock] at hj
    subst hj
    rcases hor with e | e
    · exact h.ap _ hv q (hL q hq).1 (fun e' => (hL q hq).2 (by rw [← e'])) g e hj'
    · have := own_range (h.own q (hL q hq).1) g hj'
      omega
  refine ⟨fun p hp => ?_, fun p hp q hq hne => ?_, ?_⟩
  · rcases List.mem_cons.1 hp with rfl | hp
    · exact hown
    · exact own_keep (h.own p (hL p hp).1) (KeepX.grown (ex := fun i => v.ownBlock = some i) hgr (fun _ e => e)) (fun j hj e => h.ap _ hv p (hL p hp).1 (fun e' => (hL p hp).2 (by rw [← e'])) j e hj)
  · rcases List.mem_cons.1 hp with rfl | hp
    · rcases List.mem_cons.1 hq with rfl | hq
      · exact absurd rfl hne
      · exact hfar q hq
    · rcases List.mem_cons.1 hq with rfl | hq
      · exact apart_symm (hfar p hp)
      · exact h.ap p (hL p hp).1 q (hL q hq).1 hne
  · exact h.low.grown hgr h.low.size (fun j e => by have := own_range (h.own _ hv) j e; omega)
section
variable {P : Program} {ops : Array Oper} {o : Oper} {a : Act} {K : Act → World → Prop} {Q : Exit → Act → World → Prop} {E : Prop}
/-- A step that appends a list (which reads so) to one of them. -/
theorem step_livO {wd x : World} {L L' : List (Nat × Value × List α)} {tl : TypeId} {i0 : TypeInfo} {z : Value} {bytes : Nat} (h : LivO k cs t wd x L) (hk : ∀ y, (cs y).length = k) (h1 : ∀ y, ∀ u ∈ cs y, u.oneCell' = true) {τ : Nat} (τ' : Nat) {v u : Value} {l m : List α} (hgd : o.guard = none) (s r : Operand)
    (ho : o.op = .call { callee := .builtin .append, args := #[s, r], argTypes := #[tl, tl] }) (hs : a.eval s = v) (hr : a.eval r = u)
    (ht : P.underlying tl = some (.slice t)) (hi : P.info? t = some i0) (hz : i0.zero = some z) (hsize : i0.size = k) (hby : i0.bytes = bytes) (hzs : z.cells.size = k) (hsz : 0 < k) (hbb : bytes ≤ 1000000)
    (hv : (τ, v, l) ∈ L) (hu : SlOf k cs x u m) (hb : l.length + m.length ≤ 10000000)
    (hL : ∀ q ∈ L', q ∈ L ∧ q.1 ≠ τ) (hK : ∀ v' x', LivO k cs t wd x' ((τ', v', l ++ m) :: L') → K (a.put o.dst v') x') :
    if Region.wanted o (yielded ops a.tmps) = true then Oper.wp P o a x K Q else E := by
  have ho1 := h.own _ hv
  obtain ⟨A, c, e⟩ := own_form ho1
  simp only at e
  subst e
  rcases hu.2 with ⟨rfl, B, c', rfl⟩ | ⟨g, of, c', rfl, hp, hcap, hc⟩
  · have hlc : l.length ≤ c := by
      rcases ho1.2 with ⟨e, h0⟩ | ⟨g, cap, cur, e, _, _, hnc, _⟩
      · injection e with _ e2 _; omega
      · injection e with _ _ e3; omega
    refine step_append_none x hgd s r tl ho t i0 ht hi A l.length c hs hlc B c' hr ?_
    refine hK _ x ?_
    rw [List.append_nil]
    refine ⟨fun p hp => ?_, fun p hp q hq hne => ?_, h.low⟩
    · rcases List.mem_cons.1 hp with rfl | hp
      · exact ho1
      · exact h.own p (hL p hp).1
    · rcases List.mem_cons.1 hp with rfl | hp
      · rcases List.mem_cons.1 hq with rfl | hq
        · exact absurd rfl hne
        · exact h.ap _ hv q (hL q hq).1 (fun e' => (hL q hq).2 (by rw [← e']))
      · rcases List.mem_cons.1 hq with rfl | hq
        · exact h.ap p (hL p hp).1 (τ, .slice A l.length c, l) hv (fun e' => (hL p hp).2 (by rw [e']))
        · exact h.ap p (hL p hp).1 q (hL q hq).1 hne
  · have hsrc : ∀ j w', (m.flatMap cs)[j]? = some w' → x.cell? ((⟨g, of, none⟩ : Addr).add j) = some w' := fun j w' hj => by
      have hjl : j < m.length * k := by have := (List.getElem?_eq_some_iff.1 hj).1; rwa [flat_len hk] at this
      have hdiv : j / k < m.length := Nat.div_lt_of_lt_mul (by rw [Nat.mul_comm]; exact hjl)
      obtain ⟨y, hy⟩ : ∃ y, m[j / k]? = some y := ⟨_, List.getElem?_eq_getElem hdiv⟩
      have hmod : j % k < (cs y).length := by rw [hk]; exact Nat.mod_lt _ hsz
      obtain ⟨u', hu'⟩ : ∃ u', (cs y)[j % k]? = some u' := ⟨_, List.getElem?_eq_getElem hmod⟩
      have e1 := flat_at hk m (j / k) y hy (j % k) u' hu'
      have ej : j / k * k + j % k = j := by rw [Nat.mul_comm]; exact Nat.div_add_mod j k
      rw [ej, hj] at e1
      injection e1 with e1
      subst e1
      have e2 := hc (j / k) y hy (j % k) w' hu'
      have eo : of + j / k * k + j % k = of + j := by omega
      rw [eo] at e2
      rw [Addr.add_lit]
      exact e2
    refine step_append_lies x hgd s r tl ho wd.heap.size t i0 z k bytes ht hi hz hsize hby hzs hsz (.slice A l.length c) l.length (l.flatMap cs) hs ho1 ⟨g, of, none⟩ m.length c' (m.flatMap cs) hr (flat_len hk m) hsrc (fun y hy => ?_) hp (by unfold maxLen; omega) ?_ h.low.size _ rfl ?_
    · obtain ⟨q, _, hq⟩ := List.mem_flatMap.1 hy
      exact h1 q y hq
    · have := Nat.mul_le_mul hb hbb; omega
    · intro g4 cap4 x4 hown hgr hor _
      refine hK _ x4 (h.app hv τ' (m := l ++ m) ?_ hgr hor hL)
      unfold OwnOf
      rw [List.length_append, List.flatMap_append]
      exact hown
end
theorem wp_of_stepO {P : Program} {ops : Array Oper} {o : Oper} {a : Act} {w : World} {K : Act → World → Prop} {Q : Exit → Act → World → Prop} (hgd : o.guard = none)
    (h : if Region.wanted o (yielded ops a.tmps) = true then Oper.wp P o a w K Q else False) : Oper.wp P o a w K Q := by
  have hw : Region.wanted o (yielded ops a.tmps) = true := by simp [Region.wanted, hgd]
  rw [if_pos hw] at h
  exact h
end Go.Proofs.Ytfofbnpgjdagkaa
namespace Go.Proofs.Ytfofbnpgjdagkaa
open Go.RowKit
set_option maxRecDepth 100000
section
variable {ops : Array Oper} {o : Oper} {a : Act} {w : World} {K : Act → World → Prop} {Q : Exit → Act → World → Prop} {E : Prop}
end
theorem KeepX.cell {ex : Nat → Prop} {w w' : World} (h : KeepX ex w w') {p : Addr} {v : Value} (hc : w.cell? p = some v) (hn : ¬ ex p.block) : w'.cell? p = some v :=
  (World.cell?_of_block (h.block p.block (World.block_lt_of_cell? w _ hc) hn)).trans hc
/-- Lists of one's own, no two in one block, over what has come since wd. -/
structure Liv (wd x : World) (L : List (Nat × Value × List Int)) : Prop where
  own : ∀ p ∈ L, OwnInt x wd.heap.size p.2.1 p.2.2
  ap : ∀ p ∈ L, ∀ q ∈ L, p ≠ q → ApartV p.2.1 q.2.1
  low : Below wd.heap.size wd x
theorem Liv.nil (w : World) : Liv w w [] := ⟨fun p hp => absurd hp (by simp), fun p hp => absurd hp (by simp), Below.refl _ _⟩
theorem ApartV.symm' {v u : Value} (h : ApartV v u) : ApartV u v := fun g hg hg' => h g hg' hg
theorem Liv.build {wd x : World} {L : List (Nat × Value × List Int)} (h : Liv wd x L) (τ : Nat) (l : List Int) (hl : l.length ≤ 1000000) :
    Liv wd (x.alloc (.cells (l.map (Value.int .i64)).toArray 3)) ((τ, .slice (some ⟨x.heap.size, 0, none⟩) l.length l.length, l) :: L) := by
  have hb := Joins.below_alloc1 x (.cells (l.map (Value.int .i64)).toArray 3)
  have hfl : l.flatMap intCells = l.map (Value.int .i64) := by
    induction l with
    | nil => rfl
    | cons y l ih => rw [List.flatMap_cons, ih (by simp at hl; omega) (Joins.below_alloc1 x _)]; rfl
  refine ⟨fun p hp => ?_, fun p hp q hq hne => ?_, h.low.trans (hb.mono h.low.size)⟩
  · rcases List.mem_cons.1 hp with rfl | hp
    · have h1 := World.ownsRow_lit (base := wd.heap.size) (e := 3) (size := 1) x (l.map (Value.int .i64)).toArray l.length h.low.size (by unfold maxLen; omega) (by simp)
      unfold OwnInt OwnOf
      rw [hfl]
      exact h1
    · exact own_below (h.own p hp) hb
  · have hfar : ∀ q ∈ L, ApartV (.slice (some ⟨x.heap.size, 0, none⟩) l.length l.length) q.2.1 := fun q hq g hg hg' => by
      simp [Value.ownBlock] at hg
      have := own_range (h.own q hq) g hg'
      omega
    rcases List.mem_cons.1 hp with rfl | hp
    · rcases List.mem_cons.1 hq with rfl | hq
      · exact absurd rfl hne
      · exact hfar q hq
    · rcases List.mem_cons.1 hq with rfl | hq
      · exact (hfar p hp).symm'
      · exact h.ap p hp q hq hne
/-- One of them has been appended to. -/
theorem Liv.app {wd x x' : World} {L L' : List (Nat × Value × List Int)} (h : Liv wd x L) {τ : Nat} {v : Value} {l m : List Int} (hv : (τ, v, l) ∈ L) (τ' : Nat) {g n cap : Nat}
    (hown : OwnInt x' wd.heap.size (.slice (some ⟨g, 0, none⟩) n cap) m) (hgr : x.grownBy x' v.ownBlock) (hor : v.ownBlock = some g ∨ g = x.heap.size) (hL : ∀ q ∈ L', q ∈ L ∧ q.1 ≠ τ) :
    Liv wd x' ((τ', .slice (some ⟨g, 0, none⟩) n cap, m) :: L') := by
  have hfar : ∀ q ∈ L', ApartV (.slice (some ⟨g, 0, none⟩) n cap) q.2.1 := fun q hq j hj hj' => by
    simp [Value.ownBlock] at hj
    subst hj
    rcases hor with e | e
    · exact h.ap _ hv q (hL q hq).1 (fun e' => (hL q hq).2 (by rw [← e'])) g e hj'
    · have := own_range (h.own q (hL q hq).1) g hj'
      omega
  refine ⟨fun p hp => ?_, fun p hp q hq hne => ?_, ?_⟩
  · rcases List.mem_cons.1 hp with rfl | hp
    · exact hown
    · exact own_keep (h.own p (hL p hp).1) (KeepX.grown (ex := fun i => v.ownBlock = some i) hgr (fun _ e => e)) (fun j hj e => h.ap _ hv p (hL p hp).1 (fun e' => (hL p hp).2 (by rw [← e'])) j e hj)
  · rcases List.mem_cons.1 hp with rfl | hp
    · rcases List.mem_cons.1 hq with rfl | hq
      · exact absurd rfl hne
      · exact hfar q hq
    · rcases List.mem_cons.1 hq with rfl | hq
      · exact (hfar p hp).symm'
      · exact h.ap p (hL p hp).1 q (hL q hq).1 hne
  · exact h.low.grown hgr h.low.size (fun j e => by have := own_range (h.own _ hv) j e; omega)
section
variable {ops : Array Oper} {o : Oper} {a : Act} {K : Act → World → Prop} {Q : Exit → Act → World → Prop} {E : Prop}
/-- A step that appends a list (which reads so) to one of them. -/
theorem step_liv {wd x : World} {L L' : List (Nat × Value × List Int)} (h : Liv wd x L) {τ : Nat} (τ' : Nat) {v u : Value} {l m : List Int} (hgd : o.guard = none) (s t : Operand)
    (ho : o.op = .call { callee := .builtin .append, args := #[s, t], argTypes := #[23, 23] }) (hs : a.eval s = v) (ht : a.eval t = u) (hv : (τ, v, l) ∈ L) (hu : SlInt x u m) (hb : l.length + m.length ≤ 10000000)
    (hL : ∀ q ∈ L', q ∈ L ∧ q.1 ≠ τ) (hK : ∀ v' x', Liv wd x' ((τ', v', l ++ m) :: L') → K (a.put o.dst v') x') :
    if Region.wanted o (yielded ops a.tmps) = true then Oper.wp Try.prog o a x K Q else E := by
  obtain ⟨i0, hi, hz0, hz1, hz2⟩ := info1_int
  have ho1 := h.own _ hv
  obtain ⟨A, c, e⟩ := own_form ho1
  simp only at e
  subst e
  rcases hu.2 with ⟨rfl, B, c', rfl⟩ | ⟨g, of, c', rfl, hp, hcap, hc⟩
  · have hlc : l.length ≤ c := by
      rcases ho1.2 with ⟨e, h0⟩ | ⟨g, cap, cur, e, _, _, hnc, _⟩
      · injection e with _ e2 _; omega
      · injection e with _ _ e3; omega
    refine step_append_none x hgd s t _ ho 3 i0 Try.underlying23 hi A l.length c hs hlc B c' ht ?_
    refine hK _ x ?_
    rw [List.append_nil]
    refine ⟨fun p hp => ?_, fun p hp q hq hne => ?_, h.low⟩
    · rcases List.mem_cons.1 hp with rfl | hp
      · exact ho1
      · exact h.own p (hL p hp).1
    · rcases List.mem_cons.1 hp with rfl | hp
      · rcases List.mem_cons.1 hq with rfl | hq
        · exact absurd rfl hne
        · exact h.ap _ hv q (hL q hq).1 (fun e' => (hL q hq).2 (by rw [← e']))
      · rcases List.mem_cons.1 hq with rfl | hq
        · exact h.ap p (hL p hp).1 (τ, .slice A l.length c, l) hv (fun e' => (hL p hp).2 (by rw [e']))
        · exact h.ap p (hL p hp).1 q (hL q hq).1 hne
  · have hsrc : ∀ j w', (m.flatMap intCells)[j]? = some w' → x.cell? ((⟨g, of, none⟩ : Addr).add j) = some w' := fun j w' hj => by
      have hjl : j < m.length := by have := (List.getElem?_eq_some_iff.1 hj).1; rw [flat_len intLen] at this; omega
      obtain ⟨y, hy⟩ : ∃ y, m[j]? = some y := ⟨_, List.getElem?_eq_getElem hjl⟩
      have e1 := flat_at intLen m j y hy 0 _ rfl
      rw [Nat.mul_one, Nat.add_zero, hj] at e1
      injection e1 with e1
      subst e1
      have e2 := hc j y hy 0 _ rfl
      rw [Addr.add_lit]
      simpa using e2
    refine step_append_keeps x hgd s t _ ho wd.heap.size 3 i0 _ 1 8 Try.underlying23 hi hz0 hz1 hz2 rfl (by omega) (.slice A l.length c) l.length (l.flatMap intCells) hs ho1 ⟨g, of, none⟩ m.length c' (m.flatMap intCells) ht (flat_len intLen m) hsrc (fun y hy => ?_) hp (by unfold maxLen; omega) (by omega) h.low.size ?_
    · obtain ⟨z, _, hz⟩ := List.mem_flatMap.1 hy
      exact int_one z y hz
    · intro g4 cap4 x4 hown hgr hor _ _
      refine hK _ x4 (h.app hv τ' (m := l ++ m) ?_ hgr hor hL)
      unfold OwnInt OwnOf
      rw [List.length_append, List.flatMap_append]
      exact hown
end
theorem wp_of_step {P : Program} {ops : Array Oper} {o : Oper} {a : Act} {w : World} {K : Act → World → Prop} {Q : Exit → Act → World → Prop} (hgd : o.guard = none)
    (h : if Region.wanted o (yielded ops a.tmps) = true then Oper.wp P o a w K Q else False) : Oper.wp P o a w K Q := by
  have hw : Region.wanted o (yielded ops a.tmps) = true := by simp [Region.wanted, hgd]
  rw [if_pos hw] at h
  exact h
end Go.Proofs.Ytfofbnpgjdagkaa
