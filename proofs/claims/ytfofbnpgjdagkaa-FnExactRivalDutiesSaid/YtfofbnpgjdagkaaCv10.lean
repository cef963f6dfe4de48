
/- What ExactRivalDuties and Dilworth and CoversLaw rests on, part 10: contracts and mathematics. -/
import Derived.Test.YtfofbnpgjdagkaaCv9
import Derived.Test.YtfofbnpgjdagkaaCv7
import Derived.Test.YtfofbnpgjdagkaaCv8
import Derived.Test.YtfofbnpgjdagkaaCv1
import Derived.Deep.AppendLies
import Derived.Deep.DeepCutAuto
namespace Go.Proofs.Ytfofbnpgjdagkaa
open Go.RowKit
set_option maxRecDepth 100000
theorem info_boolrow : (Try.prog.info? 75).map (fun i => (i.zero, i.size, i.bytes)) = some (some (.slice none 0 0), 1, 24) := by kernel_rfl
/-- Lists of bools of one's own, over what has come since wd. -/
abbrev LivB (wd x : World) (L : List (Nat × Value × List Bool)) : Prop := LivO 1 boolCells 4 wd x L
theorem step_livB {ops : Array Oper} {o : Oper} {a : Act} {K : Act → World → Prop} {Q : Exit → Act → World → Prop} {E : Prop} {wd x : World} {L L' : List (Nat × Value × List Bool)} (h : LivB wd x L) {τ : Nat} (τ' : Nat) {v u : Value} {l m : List Bool} (hgd : o.guard = none) (s r : Operand)
    (ho : o.op = .call { callee := .builtin .append, args := #[s, r], argTypes := #[75, 75] }) (hs : a.eval s = v) (hr : a.eval r = u) (hv : (τ, v, l) ∈ L) (hu : SlBool x u m) (hb : l.length + m.length ≤ 10000000)
    (hL : ∀ q ∈ L', q ∈ L ∧ q.1 ≠ τ) (hK : ∀ v' x', LivB wd x' ((τ', v', l ++ m) :: L') → K (a.put o.dst v') x') :
    if Region.wanted o (yielded ops a.tmps) = true then Oper.wp Try.prog o a x K Q else E := by
  obtain ⟨i0, hi, hz0, hz1, hz2⟩ := info_parts info_bool
  exact step_livO h boolLen bool_one τ' hgd s r ho hs hr Try.underlying75 hi hz0 hz1 hz2 rfl (by omega) (by omega) hv hu hb hL hK
theorem LivO.later {α : Type} {k : Nat} {cs : α → List Value} {t : TypeId} {wd x x' : World} {L : List (Nat × Value × List α)} (h : LivO k cs t wd x L) (hb : Below x.heap.size x x') : LivO k cs t wd x' L := LivO.mk (fun p hp => own_below (h.own p hp) hb) h.ap (h.low.trans (hb.mono h.low.size))
/-- For each pair of duties whether one person can perform both. -/
def bothM (p : Int) (mv : List Int) (l : List DutyD) : List (List Bool) := l.map (fun d => l.map (bothB p mv d))
def rowTo (p : Int) (mv : List Int) (l : List DutyD) (d : DutyD) (j : Nat) : List Bool := (l.take j).map (bothB p mv d)
theorem rowTo_next {p : Int} {mv : List Int} {l : List DutyD} {d : DutyD} {j : Nat} {e : DutyD} (h : l[j]? = some e) : rowTo p mv l d (j + 1) = rowTo p mv l d j ++ [bothB p mv d e] := by unfold rowTo; rw [take_snoc' l j e h, List.map_append]; rfl
theorem rowTo_len (p : Int) (mv : List Int) (l : List DutyD) (d : DutyD) (j : Nat) : (rowTo p mv l d j).length ≤ l.length := by unfold rowTo; rw [List.length_map, List.length_take]; omega
def rowsTo (p : Int) (mv : List Int) (l : List DutyD) (i : Nat) : List (List Bool) := (l.take i).map (fun d => l.map (bothB p mv d))
theorem rowsTo_next {p : Int} {mv : List Int} {l : List DutyD} {i : Nat} {d : DutyD} (h : l[i]? = some d) : rowsTo p mv l (i + 1) = rowsTo p mv l i ++ [rowTo p mv l d l.length] := by unfold rowsTo rowTo; rw [take_snoc' l i d h, List.map_append, List.take_length]; rfl
/-- What l13Both leaves. -/
def NewBoth (p : Int) (mv : List Int) (l : List DutyD) (w : World) (e : Ending) (w' : World) : Prop := ∃ v rs, e = .returned v ∧ SlRows w' v rs ∧ rs.map BRow.l = bothM p mv l ∧ Below w.heap.size w w'
/-- The rows of the matrix. -/
theorem bothM_at {p : Int} {mv : List Int} {l : List DutyD} {rs : List BRow} (h : rs.map BRow.l = bothM p mv l) : rs.length = l.length ∧ ∀ (i : Nat), i < l.length → ∃ r, rs[i]? = some r ∧ r.l.length = l.length ∧ ∀ (j : Nat), j < l.length → r.l[j]? = some (bothAt p mv l i j) := by
  have hlen : rs.length = l.length := by
    have := congrArg List.length h
    unfold bothM at this
    rwa [List.length_map, List.length_map] at this
  refine ⟨hlen, fun i hi => ?_⟩
  obtain ⟨r, hr⟩ : ∃ r, rs[i]? = some r := ⟨_, List.getElem?_eq_getElem (by omega)⟩
  obtain ⟨d, hd⟩ : ∃ d, l[i]? = some d := ⟨_, List.getElem?_eq_getElem hi⟩
  have he : r.l = l.map (bothB p mv d) := by
    have h1 : (rs.map BRow.l)[i]? = some r.l := by rw [List.getElem?_map, hr]; rfl
    have h2 : (bothM p mv l)[i]? = some (l.map (bothB p mv d)) := by unfold bothM; rw [List.getElem?_map, hd]; rfl
    rw [h, h2] at h1
    injection h1 with h1
    exact h1.symm
  refine ⟨r, hr, by rw [he, List.length_map], fun j hj => ?_⟩
  obtain ⟨e, hj2⟩ : ∃ e, l[j]? = some e := ⟨_, List.getElem?_eq_getElem hj⟩
  rw [he, List.getElem?_map, hj2, bothAt_at hd hj2]
  rfl
set_option maxHeartbeats 16000000 in
theorem specBoth (p : Int) (ymv : Value) (mv : List Int) (yl : Value) (l : List DutyD) (w : World) (rmv : SlInt w ymv mv) (rl : SlDuty w yl l) (hl12 : l.length ≤ 12) :
    Calls Try.prog 55 #[.int .i64 p, ymv, yl] w (NewBoth p mv l w) := by
  have Rmv := Lib.hid rmv
  have HS := Lib.hid rl
  obtain ⟨A0, c0, rfl⟩ := SlOf.form rmv
  obtain ⟨A1, c1, rfl⟩ := SlOf.form rl
  obtain ⟨nm, hnm⟩ : ∃ n, mv.length = n := ⟨_, rfl⟩
  obtain ⟨m, hm⟩ : ∃ n, l.length = n := ⟨_, rfl⟩
  have HM := Lib.hid hm
  rw [hnm] at Rmv
  rw [hm] at hl12 HS
  rw [hnm, hm]
  clear rmv rl hnm hm
  have G0 := Lib.hid (GathB.made (Below.refl w.heap.size w))
  obtain ⟨i0, hi0, hz0, hz1, hz2⟩ := info_parts info_boolrow
  have HI := Lib.hid (And.intro hi0 (And.intro hz0 (And.intro hz1 hz2)))
  clear hi0 hz0 hz1 hz2
  go_enter Try.func55, Try.ntmps55
  go_wp2
  go_loopw [7, 16] (fun q t wr => ∃ (i : Nat) (v : Value) (rs : List BRow), i ≤ m ∧ t = .int .i64 (i : Int) ∧ q = v ∧ Hid (GathB w v rs wr) ∧ Hid (rs.map BRow.l = rowsTo p mv l i)) (fun _ t _ => m - (intOf t).toNat)
  case atStart => exact ⟨0, _, [], Nat.zero_le _, rfl, rfl, G0, Lib.hid rfl⟩
  case round =>
    obtain ⟨i, v, rs, hi, rfl, rfl, hG, hR⟩ := hrel
    obtain ⟨wo, rfl⟩ : ∃ W, W = wr := ⟨_, rfl⟩
    have hrl : rs.length = min i l.length := by
      have := congrArg List.length hR.out
      unfold rowsTo at this
      rwa [List.length_map, List.length_map, List.length_take] at this
    have hrn : rs.length ≤ 12 := by have := HM.out; omega
    clear hrl
    obtain ⟨A7, c7, e7⟩ := hG.out.form
    subst e7
    by_cases hlt : i < m
    rotate_left
    · obtain rfl : i = m := by omega
      have HE := Lib.hid (hR.out.trans (show _ = bothM p mv l by unfold rowsTo bothM; rw [List.take_of_length_le (by rw [HM.out]; omega)]))
      have HR := Lib.hid (hG.out.reads (by omega) (fun r hr => by
        have h1 : r.l ∈ rs.map BRow.l := List.mem_map_of_mem hr
        rw [HE.out] at h1
        obtain ⟨d, _, e⟩ := List.mem_map.1 h1
        rw [← e, List.length_map]
        have := HM.out
        omega))
      go_wp2
      go_ret
      exact ⟨_, rs, rfl, HR.out, HE.out, hG.out.low⟩
    obtain ⟨d, hd⟩ : ∃ x, l[i]? = some x := ⟨_, List.getElem?_eq_getElem (by have := HM.out; omega)⟩
    have HD := Lib.hid hd
    have BO := Lib.hid hG.out.low
    rcases HS.out.2 with ⟨he, _⟩ | ⟨g, o, c', e, lpos, lcap, lc⟩
    · rw [he] at hd; simp at hd
    injection e with ea e2 e3
    subst ea
    clear e2 e3 lpos lcap
    have HLC := Lib.hid lc
    obtain ⟨q0, q1, q2, q3⟩ := SlDuty.cells lc i d hd
    have y0 := cell_onV q0 BO.out
    have y1 := cell_onV q1 BO.out
    have y2 := cell_onV q2 BO.out
    have y3 := cell_onV q3 BO.out
    clear q0 q1 q2 q3 lc hd
    go_upto_region 5 with fail
    have BL := Joins.below_alloc1 wo (.cells #[.int .i64 d.fr, .int .i64 d.tt, .int .i64 d.a, .int .i64 d.b] 35)
    have KN := Blk.new wo #[.int .i64 d.fr, .int .i64 d.tt, .int .i64 d.a, .int .i64 d.b] 35
    obtain ⟨w2, hw2⟩ : ∃ W, W = wo.alloc (.cells #[.int .i64 d.fr, .int .i64 d.tt, .int .i64 d.a, .int .i64 d.b] 35) := ⟨_, rfl⟩
    rw [← hw2] at BL KN ⊢
    have hz2 : w2.heap.size = wo.heap.size + 1 := by rw [hw2]; simp
    have HZ2 := Lib.hid hz2
    have B2 := Lib.hid (BO.out.trans (BL.mono BO.out.size))
    have KP := Lib.hid KN
    have BOL := Lib.hid BL
    have L0 := Lib.hid (show LivB w2 (w2.alloc (.cells #[] 4)) [(0, .slice (some ⟨w2.heap.size, 0, none⟩) 0 0, rowTo p mv l d 0)] from LivO.build (LivO.nil w2) boolLen 0 [] (by simp))
    clear BL KN hw2 hz2 y0 y1 y2 y3
    go_wp2
    go_loopw [10, 23] (fun q t wx => ∃ (j : Nat) (u : Value), j ≤ m ∧ t = .int .i64 (j : Int) ∧ q = u ∧ Hid (LivB w2 wx [(0, u, rowTo p mv l d j)])) (fun _ t _ => m - (intOf t).toNat)
    case atStart => exact ⟨0, _, Nat.zero_le _, rfl, rfl, L0⟩
    case round =>
      obtain ⟨j, u, hj, rfl, rfl, hL⟩ := hrel
      have BX := Lib.hid (B2.out.trans (hL.out.low.mono B2.out.size))
      have KX := Lib.hid (KP.out.below hL.out.low)
      have hrt := rowTo_len p mv l d j
      have hrt12 : (rowTo p mv l d j).length ≤ 12 := by have := HM.out; omega
      have HRT := Lib.hid hrt12
      clear hrt hrt12
      by_cases hjm : j < m
      rotate_left
      · obtain rfl : j = m := by omega
        have ER := Lib.hid (show rowTo p mv l d j = rowTo p mv l d l.length by rw [HM.out])
        have HO := hL.out.own _ List.mem_cons_self
        obtain ⟨Au, cu, hu⟩ := own_form HO
        simp only at hu
        obtain ⟨nr, hnr⟩ : ∃ n, (rowTo p mv l d j).length = n := ⟨_, rfl⟩
        rw [hnr] at hu
        subst hu
        have OR := Lib.hid (show OwnOf 1 boolCells 4 wr w2.heap.size (.slice Au nr cu) (rowTo p mv l d j) from HO)
        have hb1 := Joins.below_alloc1 wr (.cells #[.slice Au nr cu] 75)
        have BW := Lib.hid ((BOL.out.trans (hL.out.low.mono BOL.out.size)).trans (hb1.mono (BOL.out.trans (hL.out.low.mono BOL.out.size)).size))
        have OA := Lib.hid (own_lo (own_below OR.out hb1) (show wo.heap.size ≤ w2.heap.size by rw [HZ2.out]; omega))
        have GA := Lib.hid (own_below (hG.out.own) BW.out)
        have HN := Lib.hid (World.news_of_block (heap_alloc_new wr (.cells #[.slice Au nr cu] 75)))
        have hsz : w.heap.size ≤ wr.heap.size + 1 := by have := BX.out.size; omega
        clear HO hb1 hnr
        go_wp2_with (at_builtin; refine wpList_append_lies _ rfl (.tmp 43) (.tmp 45) _ rfl w.heap.size 75 i0 _ 1 24 Try.underlying73 HI.out.1 HI.out.2.1 HI.out.2.2.1 HI.out.2.2.2 rfl (by omega) (.slice A7 rs.length c7) rs.length (rs.flatMap BRow.cells) rfl GA.out ⟨wr.heap.size, 0, none⟩ 1 1 [.slice Au nr cu] (by first | rfl | simp) rfl HN.out (by intro z hz; simp at hz; subst hz; rfl) (by omega) (by unfold maxLen; omega) (by omega) (by first | omega | (simp; omega)) _ rfl ?_; intro g4 cap4 w4 hown4 hgrow4 hor4 hlt4; have GY := Lib.hid (hG.out.next BW.out OA.out hown4 hgrow4 hor4); clear hown4 hgrow4 hor4 hlt4)
        have HRN := Lib.hid (show (rs ++ [(⟨.slice Au nr cu, rowTo p mv l d j⟩ : BRow)]).map BRow.l = rowsTo p mv l (i + 1) by rw [rowsTo_next HD.out, List.map_append, hR.out, ← ER.out]; rfl)
        go_roundw
        case rel => exact ⟨i + 1, _, _, by omega, by go_num, rfl, GY, HRN⟩
        case measure => simp [intOf]; omega
      obtain ⟨f, hf⟩ : ∃ x, l[j]? = some x := ⟨_, List.getElem?_eq_getElem (by have := HM.out; omega)⟩
      have HF := Lib.hid hf
      obtain ⟨q0, q1, q2, q3⟩ := SlDuty.cells HLC.out j f hf
      have y0 := cell_onV q0 BX.out
      have y1 := cell_onV q1 BX.out
      have y2 := cell_onV q2 BX.out
      have y3 := cell_onV q3 BX.out
      clear q0 q1 q2 q3 hf
      go_upto_region 9 with fail
      have BL := Joins.below_alloc1 wr (.cells #[.int .i64 f.fr, .int .i64 f.tt, .int .i64 f.a, .int .i64 f.b] 35)
      have KN := Blk.new wr #[.int .i64 f.fr, .int .i64 f.tt, .int .i64 f.a, .int .i64 f.b] 35
      obtain ⟨w4, hw4⟩ : ∃ W, W = wr.alloc (.cells #[.int .i64 f.fr, .int .i64 f.tt, .int .i64 f.a, .int .i64 f.b] 35) := ⟨_, rfl⟩
      rw [← hw4] at BL KN ⊢
      have B4 := Lib.hid (BX.out.trans (BL.mono BX.out.size))
      have KF := Lib.hid KN
      have KD := Lib.hid (KX.out.below BL)
      have LB := Lib.hid (hL.out.later BL)
      clear BL KN hw4 y0 y1 y2 y3
      obtain ⟨b1, hb1⟩ : ∃ b, canB p mv d f = b := ⟨_, rfl⟩
      have H1 := Lib.hid hb1
      clear hb1
      have z0 : w4.cell? ⟨wo.heap.size, 0, none⟩ = some (.int .i64 d.fr) := KD.out.cell 0
      have x0 : w4.cell? ⟨wr.heap.size, 0, none⟩ = some (.int .i64 f.fr) := KF.out.cell 0
      have z1 : w4.cell? ⟨wo.heap.size, 1, none⟩ = some (.int .i64 d.tt) := KD.out.cell 1
      have x1 : w4.cell? ⟨wr.heap.size, 1, none⟩ = some (.int .i64 f.tt) := KF.out.cell 1
      have z2 : w4.cell? ⟨wo.heap.size, 2, none⟩ = some (.int .i64 d.a) := KD.out.cell 2
      have x2 : w4.cell? ⟨wr.heap.size, 2, none⟩ = some (.int .i64 f.a) := KF.out.cell 2
      have z3 : w4.cell? ⟨wo.heap.size, 3, none⟩ = some (.int .i64 d.b) := KD.out.cell 3
      have x3 : w4.cell? ⟨wr.heap.size, 3, none⟩ = some (.int .i64 f.b) := KF.out.cell 3
      go_wp2_with fail
      clear z0 z1 z2 z3 x0 x1 x2 x3
      refine (specCanFollow p _ mv d f _ (Rmv.out.below B4.out)).mono ?_
      rw [H1.out]
      rintro e w5 ⟨rfl, hb5⟩
      have B5 := Lib.hid (B4.out.trans (hb5.mono B4.out.size))
      have LB5 := Lib.hid (LB.out.later hb5)
      have KF5 := Lib.hid (KF.out.below hb5)
      have KD5 := Lib.hid (KD.out.below hb5)
      clear hb5
      cases b1 with
      | true =>
        have EN := Lib.hid (show rowTo p mv l d (j + 1) = rowTo p mv l d j ++ [true] by rw [rowTo_next HF.out]; rw [show bothB p mv d f = true from by unfold bothB; rw [H1.out]; rfl])
        have L2 := Lib.hid (show LivB w2 (w5.alloc (.cells #[.bool true] 4)) ((1, .slice (some ⟨w5.heap.size, 0, none⟩) 1 1, [true]) :: [(0, u10, rowTo p mv l d j)]) from LivO.build LB5.out boolLen 1 [true] (by simp))
        have HNB := Lib.hid (own_sl boolLen (L2.out.own _ List.mem_cons_self) (by simp))
        go_wp2_with (at_builtin; refine wpList_plain rfl fun K hK => wp_of_stepO (ops := #[]) rfl (step_livB L2.out (L' := []) (τ := 0) (v := u10) (u := .slice (some ⟨w5.heap.size, 0, none⟩) 1 1) (l := rowTo p mv l d j) (m := [true]) 0 rfl (.tmp 27) (.tmp 40) rfl rfl rfl (List.mem_cons_of_mem _ List.mem_cons_self) HNB.out (by have := HRT.out; simp; omega) (fun q hq => by cases hq) ?_); intro v5 x5 hl5; refine hK _ _ ?_; have L5 := Lib.hid hl5; clear hl5)
        go_roundw
        case rel => exact ⟨j + 1, _, by omega, by go_num, rfl, by rw [EN.out]; exact L5⟩
        case measure => simp [intOf]; omega
      | false =>
        obtain ⟨b2, hb2⟩ : ∃ b, canB p mv f d = b := ⟨_, rfl⟩
        have H2 := Lib.hid hb2
        clear hb2
        have z0 : w5.cell? ⟨wo.heap.size, 0, none⟩ = some (.int .i64 d.fr) := KD5.out.cell 0
        have x0 : w5.cell? ⟨wr.heap.size, 0, none⟩ = some (.int .i64 f.fr) := KF5.out.cell 0
        have z1 : w5.cell? ⟨wo.heap.size, 1, none⟩ = some (.int .i64 d.tt) := KD5.out.cell 1
        have x1 : w5.cell? ⟨wr.heap.size, 1, none⟩ = some (.int .i64 f.tt) := KF5.out.cell 1
        have z2 : w5.cell? ⟨wo.heap.size, 2, none⟩ = some (.int .i64 d.a) := KD5.out.cell 2
        have x2 : w5.cell? ⟨wr.heap.size, 2, none⟩ = some (.int .i64 f.a) := KF5.out.cell 2
        have z3 : w5.cell? ⟨wo.heap.size, 3, none⟩ = some (.int .i64 d.b) := KD5.out.cell 3
        have x3 : w5.cell? ⟨wr.heap.size, 3, none⟩ = some (.int .i64 f.b) := KF5.out.cell 3
        go_wp2_with fail
        clear z0 z1 z2 z3 x0 x1 x2 x3
        refine (specCanFollow p _ mv f d _ (Rmv.out.below B5.out)).mono ?_
        rw [H2.out]
        rintro e w6 ⟨rfl, hb6⟩
        have B6 := Lib.hid (B5.out.trans (hb6.mono B5.out.size))
        have LB6 := Lib.hid (LB5.out.later hb6)
        clear hb6
        have EN := Lib.hid (show rowTo p mv l d (j + 1) = rowTo p mv l d j ++ [b2] by rw [rowTo_next HF.out]; rw [show bothB p mv d f = b2 from by unfold bothB; rw [H1.out, H2.out]; rfl])
        have L2 := Lib.hid (show LivB w2 (w6.alloc (.cells #[.bool b2] 4)) ((1, .slice (some ⟨w6.heap.size, 0, none⟩) 1 1, [b2]) :: [(0, u10, rowTo p mv l d j)]) from LivO.build LB6.out boolLen 1 [b2] (by simp))
        have HNB := Lib.hid (own_sl boolLen (L2.out.own _ List.mem_cons_self) (by simp))
        go_wp2_with (at_builtin; refine wpList_plain rfl fun K hK => wp_of_stepO (ops := #[]) rfl (step_livB L2.out (L' := []) (τ := 0) (v := u10) (u := .slice (some ⟨w6.heap.size, 0, none⟩) 1 1) (l := rowTo p mv l d j) (m := [b2]) 0 rfl (.tmp 27) (.tmp 40) rfl rfl rfl (List.mem_cons_of_mem _ List.mem_cons_self) HNB.out (by have := HRT.out; simp; omega) (fun q hq => by cases hq) ?_); intro v5 x5 hl5; refine hK _ _ ?_; have L5 := Lib.hid hl5; clear hl5)
        go_roundw
        case rel => exact ⟨j + 1, _, by omega, by go_num, rfl, by rw [EN.out]; exact L5⟩
        case measure => simp [intOf]; omega
end Go.Proofs.Ytfofbnpgjdagkaa
