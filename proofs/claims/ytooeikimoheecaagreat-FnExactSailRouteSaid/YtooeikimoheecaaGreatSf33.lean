
/- What ExactSailRoute and ExactFirstSail rests on, part 33: contracts and mathematics. -/
import Derived.Test.YtooeikimoheecaaGreatSf31
import Derived.Test.YtooeikimoheecaaGreatSf12
import Derived.Test.YtooeikimoheecaaGreatSf7
import Derived.StillTailTactics
import Derived.Deep.DeepCutAuto
import Derived.Deep.LoopGhost
import Derived.WalkMore
import Derived.Test.YtooeikimoheecaaGreatSf30
import Derived.Test.YtooeikimoheecaaGreatSf21
namespace Go.Proofs.YtooeikimoheecaaGreat
open Go.RowKit
set_option maxRecDepth 100000
/-- What a search among the legs from first to last leaves. -/
def SailRes (l : List LegR) (first last : Int) (x : Option (List Int)) : Prop := (l = [] → x = none) ∧ ∀ l0, l[0]? = some l0 → Found l0.win.sure (l.map LegR.d) first last x
/-- The search has come to the start st. -/
def OutSt (L : List WindowD) (legs : List LegD) (first last st : Int) : Prop := Past L legs first st ∧ (st < 0 ∨ last < st → Found L legs first last none) ∧ (0 ≤ st → hasB L st = true ∧ first ≤ st ∧ st ≤ 2880)
theorem OutSt.start {L : List WindowD} (hw : WOk L) (legs : List LegD) (first last : Int) : OutSt L legs first last (nextI L first) :=
  ⟨(Past.zero L legs first).next hw, (Past.zero L legs first).end hw, fun h => next_has h⟩
theorem OutSt.next {L : List WindowD} {legs : List LegD} {first last st : Int} (hw : WOk L) (h : OutSt L legs first last st) (h0 : 0 ≤ st) (hn : runTo legs st legs.length = none) : OutSt L legs first last (nextI L (st + 1)) := by
  have hs := h.1.skip hn
  have h1 := (h.2.2 h0).2.1
  refine ⟨hs.next hw, hs.end hw, fun h2 => ?_⟩
  have := next_has h2
  exact ⟨this.1, by omega, this.2.2⟩
def intsV (l : List Int) : Array Value := (l.map (Value.int .i64)).toArray
theorem blk_set_int {w : World} {b k : Nat} {l : List Int} {x : Int} (h : Blk w b (intsV l) 3) : Blk (w.setCell ⟨b, k, none⟩ (.int .i64 x)) b (intsV (l.set k x)) 3 := by
  have := h.set k (.int .i64 x)
  rw [show (intsV l).setIfInBounds k (.int .i64 x) = intsV (l.set k x) by simp [intsV, List.map_set]] at this
  exact this
theorem blk_cell_int {w : World} {b k : Nat} {l : List Int} {x : Int} (h : Blk w b (intsV l) 3) (hx : l[k]? = some x) : w.cell? ⟨b, k, none⟩ = some (.int .i64 x) := by
  rw [h.cell k]
  simp [intsV, hx]
theorem own_blk_int {w : World} {b base : Nat} {l : List Int} (h : Blk w b (intsV l) 3) (hb : base ≤ b) (hl : l.length ≤ 1000000000) : OwnInt w base (.slice (some ⟨b, 0, none⟩) l.length l.length) l := by
  have e : l.flatMap intCells = l.map (Value.int .i64) := by
    clear h hl
    induction l with
    | nil => rfl
    | cons x l ih => simp [intCells, ih]
  refine ⟨by rw [e]; simp, .inr ⟨b, l.length, intsV l, rfl, hb, h, Nat.le_refl _, by unfold maxLen; omega, by simp [intsV], by rw [e]; simp [intsV, List.take_of_length_le]⟩⟩
theorem leg_ints (n : Nat) (hn : n ≤ 1000000000) (W : World) :
    (Instr.makeSlice 61 (.int .i64 (n : Int)) (.int .i64 (n : Int))).run Tryz.prog W = .ok (.slice (some ⟨W.heap.size, 0, none⟩) n n) (W.alloc (.cells (madeCells #[.int .i64 0] (n * 1)) 3)) := by
  obtain ⟨i0, hi, hz0, hz1, hz2⟩ := info_parts info_int
  have hr := run_make (P := Tryz.prog) W 61 3 i0 _ Tryz.underlying61 hi hz0 .i64 .i64 n n (by omega) (Int.le_refl _) (by rw [hz2]; omega) (by omega)
  simp only [Int.toNat_natCast, hz1] at hr
  exact hr
theorem made_ints (n : Nat) : madeCells #[.int .i64 0] n = intsV (List.replicate n 0) := by
  have e := made_flat #[.int .i64 0] n
  rw [show (#[Value.int .i64 0]).size = 1 from rfl, Nat.mul_one] at e
  apply Array.toList_inj.1
  rw [e]
  simp [intsV]
theorem take_set_snoc {l : List Int} {k : Nat} {x : Int} {o : List Int} (h : l.take k = o) (hk : k < l.length) : (l.set k x).take (k + 1) = o ++ [x] := by
  rw [take_snoc' (l.set k x) k x (by simp [hk]), List.take_set_of_le (Nat.le_refl _), h]
set_option maxHeartbeats 8000000 in
theorem sailLegs_any (v : Value) (l : List LegR) (first last : Int) (w : World) (h : RdLegs w v l) (hw : ∀ x ∈ l, WOk x.win.sure) (hm : ∀ l0, l[0]? = some l0 → l0.win.sure ≠ [] → ∀ x ∈ l, 0 ≤ x.mins ∧ x.mins ≤ 480) :
    Calls Tryz.prog 53 #[v, .int .i64 first, .int .i64 last] w (fun e w' => ∃ x, SailRes l first last x ∧ SailPost x w e w') := by
  have hl := h.1.1
  have HRS := Lib.hid h.2
  rcases h.1.2 with ⟨rfl, A, c, rfl⟩ | ⟨g, o, c, rfl, hpos, hcap, hc⟩
  · clear h hw hm
    go_enter Tryz.func53, Tryz.ntmps53
    go_wp2
    go_step3
    go_wp2
    rw [Exit.noGoto_ret]
    refine bodyPost_ret (v := .tuple #[.slice none 0 0, .bool false]) (by simp [results, Tryz.results53, go_sem, *]) rfl ⟨none, ⟨fun _ => rfl, fun l0 h0 => by simp at h0⟩, SailPost.no rfl (Below.refl _ _)⟩
  · have HC := Lib.hid (LegR.at hc)
    have HW := Lib.hid hw
    have HM := Lib.hid hm
    obtain ⟨x0, hx0⟩ : ∃ x, l[0]? = some x := ⟨_, List.getElem?_eq_getElem hpos⟩
    have HX0 := Lib.hid hx0
    have ya := (HC.out 0 x0 hx0).1
    rw [Nat.zero_mul, Nat.add_zero] at ya
    have YA := Lib.hid ya
    have SX0 := Lib.hid (HRS.out x0 (List.mem_of_getElem? hx0))
    have W0K := Lib.hid (hw x0 (List.mem_of_getElem? hx0))
    have HML := Lib.hid (show (l.map LegR.d).length = l.length from List.length_map _)
    have hl0 : ((l.length : Int) == 0) = false := by rw [beq_eq_false_iff_ne]; omega
    have hmk := leg_ints l.length hl
    clear h hw hm hc hx0 ya
    go_enter Tryz.func53, Tryz.ntmps53
    go_wp2
    go_step3
    go_wp2
    go_step3
    obtain ⟨W1, hW1⟩ : ∃ W1, W1 = w.alloc (.cells (madeCells #[.int .i64 0] l.length) 3) := ⟨_, rfl⟩
    have B1 := Lib.hid (Joins.below_alloc1 w (.cells (madeCells #[.int .i64 0] l.length) 3))
    have KS := Lib.hid (Blk.new w (madeCells #[.int .i64 0] l.length) 3)
    rw [← hW1] at B1 KS ⊢
    rw [made_ints] at KS
    have y1 := cell_onV YA.out B1.out
    clear hW1 hmk
    go_wp2_with fail
    refine (implNextMinute x0.win.v x0.win.sure first _ (SX0.out.below B1.out)).mono ?_
    rintro e w2 ⟨rfl, hb2⟩
    have B2 := Lib.hid (B1.out.trans (hb2.mono B1.out.size))
    have K2 := Lib.hid (KS.out.below hb2)
    have OS := Lib.hid (OutSt.start W0K.out (l.map LegR.d) first last)
    have on := fun h => (OS.out.2.2 h).1
    obtain ⟨st0, hst0⟩ : ∃ z, nextI x0.win.sure first = z := ⟨_, rfl⟩
    rw [hst0] at OS ⊢
    clear hb2 y1 hst0 B1 KS on
    go_wp2
    go_loopg [9] 2881 (fun g9 p wx => ∃ (st : Int) (out : List Int), p = .int .i64 st ∧ (0 ≤ st → 2881 ≤ st + (g9 : Int)) ∧ Hid (out.length = l.length) ∧ Hid (OutSt x0.win.sure (l.map LegR.d) first last st) ∧ Hid (Blk wx w.heap.size (intsV out) 3) ∧ Hid (Below w.heap.size w wx))
    case atStart => exact ⟨st0, List.replicate l.length 0, rfl, fun h => by omega, Lib.hid (by simp), OS, K2, B2⟩
    case round =>
      clear OS K2 B2
      obtain ⟨st, out, rfl, hg9, hol, hO, hK, hB⟩ := hrel
      have FIN : Hid (Found x0.win.sure (l.map LegR.d) first last none → SailRes l first last none) := Lib.hid (fun hf => ⟨fun _ => rfl, fun l0 h0 => by have e := HX0.out; rw [h0] at e; injection e with e; rw [e]; exact hf⟩)
      by_cases hs0 : 0 ≤ st
      rotate_left
      · have F := Lib.hid (FIN.out (hO.out.2.1 (.inl (by omega))))
        go_wp2
        try rw [Exit.noGoto_ret]
        refine bodyPost_ret (v := .tuple #[.slice none 0 0, .bool false]) (by simp [results, Tryz.results53, go_sem, *]) rfl ⟨none, F.out, SailPost.no rfl hB.out⟩
      by_cases hs1 : st ≤ last
      rotate_left
      · have F := Lib.hid (FIN.out (hO.out.2.1 (.inr (by omega))))
        go_wp2
        try rw [Exit.noGoto_ret]
        refine bodyPost_ret (v := .tuple #[.slice none 0 0, .bool false]) (by simp [results, Tryz.results53, go_sem, *]) rfl ⟨none, F.out, SailPost.no rfl hB.out⟩
      obtain ⟨hh, hf, hs2⟩ := hO.out.2.2 hs0
      have HMM := Lib.hid (HM.out x0 HX0.out (fun e => by rw [e] at hh; cases hh))
      have HMD := Lib.hid (show ∀ z ∈ l.map LegR.d, 0 ≤ z.mins ∧ z.mins ≤ 480 from fun z hz => by obtain ⟨y, hy, e⟩ := List.mem_map.1 hz; rw [← e]; exact HMM.out y hy)
      have HHH := Lib.hid hh
      obtain ⟨gp, rfl⟩ : ∃ gp, gk = gp + 1 := ⟨gk - 1, by have := hg9 hs0; omega⟩
      have HGP := Lib.hid (show 2881 ≤ st + ((gp + 1 : Nat) : Int) from hg9 hs0)
      clear hg9 hh
      go_wp2
      go_loopg [10, 42] l.length (fun g2 p q wy => ∃ (k : Nat) (a : Int) (os ot : List Int), p = .int .i64 a ∧ q = .int .i64 (k : Int) ∧ k ≤ l.length ∧ Hid (k + g2 = l.length) ∧ Hid (runTo (l.map LegR.d) st k = some (os, a)) ∧ Hid (ot.length = l.length ∧ ot.take k = os) ∧ Hid (Blk wy w.heap.size (intsV ot) 3) ∧ Hid (Below w.heap.size w wy))
      case atStart => exact ⟨0, st, [], out, rfl, rfl, Nat.zero_le _, Lib.hid (by omega), Lib.hid rfl, Lib.hid ⟨hol.out, rfl⟩, hK, hB⟩
      case round =>
        clear hK hB
        obtain ⟨k, a, os, ot, rfl, rfl, hkl, hkg, hR, hot, hK, hB⟩ := hrel
        by_cases hlt : k < l.length
        rotate_left
        · have hke : k = l.length := by omega
          have F : Hid (SailRes l first last (some ot)) := Lib.hid ⟨(fun e => by rw [e] at hpos; cases hpos), fun l0 h0 => by
            have e := HX0.out
            rw [h0] at e
            injection e with e
            rw [e]
            have h1 := hR.out
            rw [hke] at h1
            have h2 := hot.out.2
            rw [hke, ← hot.out.1, List.take_length] at h2
            rw [h2]
            exact hO.out.1.hit hf hs1 HHH.out (by rw [HML.out]; exact h1)⟩
          have OW := Lib.hid (own_blk_int (base := w.heap.size) hK.out (Nat.le_refl _) (by rw [hot.out.1]; omega))
          rw [hot.out.1] at OW
          clear hke
          go_wp2
          try rw [Exit.noGoto_ret]
          refine bodyPost_ret (v := .tuple #[.slice (some ⟨w.heap.size, 0, none⟩) l.length l.length, .bool true]) (by simp [results, Tryz.results53, go_sem, *]) rfl ⟨some ot, F.out, SailPost.yes rfl OW.out hB.out⟩
        · obtain ⟨x, hx⟩ : ∃ x, l[k]? = some x := ⟨_, List.getElem?_eq_getElem hlt⟩
          obtain ⟨⟨xv, L⟩, mn, wt⟩ := x
          obtain ⟨Ax, cx, hxv⟩ : ∃ Ax cx, xv = .slice Ax L.length cx := SlOf.form (HRS.out _ (List.mem_of_getElem? hx))
          subst hxv
          obtain ⟨q0, q1, q2⟩ := HC.out k _ hx
          dsimp only at q0 q1 q2
          have z0 := cell_onV q0 hB.out
          have z1 := cell_onV q1 hB.out
          have z2 := cell_onV q2 hB.out
          have SX := Lib.hid (show SlWindow w (.slice Ax L.length cx) L from HRS.out _ (List.mem_of_getElem? hx))
          have HXD := Lib.hid (show (l.map LegR.d)[k]? = some ⟨L, mn, wt⟩ by rw [List.getElem?_map, hx]; rfl)
          obtain ⟨m0, m1⟩ : 0 ≤ mn ∧ mn ≤ 480 := HMM.out _ (List.mem_of_getElem? hx)
          obtain ⟨a0, a1⟩ := runTo_bnd ⟨hs0, hs2⟩ HMD.out k hR.out
          clear q0 q1 q2 hx
          go_upto_region 11 with fail
          have BL := Joins.below_alloc1 wr (.cells #[.slice Ax L.length cx, .int .i64 mn, .bool wt] 138)
          have KN := Blk.new wr #[.slice Ax L.length cx, .int .i64 mn, .bool wt] 138
          obtain ⟨w6, hw6⟩ : ∃ w6, w6 = wr.alloc (.cells #[.slice Ax L.length cx, .int .i64 mn, .bool wt] 138) := ⟨_, rfl⟩
          rw [← hw6] at BL KN ⊢
          have B6 := Lib.hid (hB.out.trans (BL.mono hB.out.size))
          have K6 := Lib.hid (hK.out.below BL)
          have KX := Lib.hid KN
          have hgs : w.heap.size < wr.heap.size := hK.out.lt
          have v0 : w6.cell? ⟨wr.heap.size, 0, none⟩ = some (.slice Ax L.length cx) := KN.cell 0
          clear hw6 BL KN z0 z1 z2
          obtain ⟨nx, hnx⟩ : ∃ z, nextI L a = z := ⟨_, rfl⟩
          have HNX := Lib.hid hnx
          clear hnx
          go_wp2_with fail
          refine (implNextMinute _ L a _ (SX.out.below B6.out)).mono ?_
          rw [HNX.out]
          rintro e w7 ⟨rfl, hb7⟩
          have B7 := Lib.hid (B6.out.trans (hb7.mono B6.out.size))
          have K7 := Lib.hid (K6.out.below hb7)
          have KX7 := Lib.hid (KX.out.below hb7)
          obtain ⟨t, ht⟩ : ∃ z, ot[k]? = some z := ⟨_, List.getElem?_eq_getElem (by rw [hot.out.1]; exact hlt)⟩
          have y7 := blk_cell_int K7.out ht
          have f7 := K7.out.free k
          clear hb7 v0 ht
          go_upto_region 12 with fail
          have K8 := Lib.hid (blk_set_int (k := k) (x := nx) K7.out)
          have B8 := Lib.hid (B7.out.setCell (p := ⟨w.heap.size, k, none⟩) (Nat.le_refl _) (.int .i64 nx))
          have KX8 := Lib.hid (KX7.out.other (b' := w.heap.size) (by omega) k (.int .i64 nx))
          obtain ⟨w8, hw8⟩ : ∃ w8, w8 = w7.setCell ⟨w.heap.size, k, none⟩ (.int .i64 nx) := ⟨_, rfl⟩
          rw [← hw8] at K8 B8 KX8 ⊢
          clear hw8 y7 f7 K7 KX7 K6 KX
          have y8 := blk_cell_int K8.out (x := nx) (k := k) (by rw [List.getElem?_set_self (by rw [hot.out.1]; exact hlt)])
          have u0 : w8.cell? ⟨wr.heap.size, 0, none⟩ = some (.slice Ax L.length cx) := KX8.out.cell 0
          have u1 : w8.cell? ⟨wr.heap.size, 1, none⟩ = some (.int .i64 mn) := KX8.out.cell 1
          have u2 : w8.cell? ⟨wr.heap.size, 2, none⟩ = some (.bool wt) := KX8.out.cell 2
          by_cases c1 : nx < 0
          · have F := Lib.hid (FIN.out (hO.out.1.dead (last := last) hR.out HXD.out (by show nextI L a < 0; rw [HNX.out]; exact c1)))
            go_wp2
            try rw [Exit.noGoto_ret]
            refine bodyPost_ret (v := .tuple #[.slice none 0 0, .bool false]) (by simp [results, Tryz.results53, go_sem, *]) rfl ⟨none, F.out, SailPost.no rfl B8.out⟩
          · have hge := next_ge (l := L) (t := a) (by rw [HNX.out]; omega)
            rw [HNX.out] at hge
            have hle := next_le (l := L) (t := a) (by rw [HNX.out]; omega)
            rw [HNX.out] at hle
            by_cases c2 : a < nx ∧ wt = false
            · obtain ⟨c2, c3⟩ := c2
              subst c3
              have HN := Lib.hid (show runTo (l.map LegR.d) st (l.map LegR.d).length = none from runTo_none (k := k + 1) (by rw [runTo_next hR.out HXD.out]; show (if nextI L a < 0 then none else if a < nextI L a ∧ false = false then none else _) = none; rw [HNX.out, if_neg c1, if_pos ⟨c2, rfl⟩]) _ (by rw [HML.out]; omega))
              have ON := Lib.hid (hO.out.next W0K.out hs0 HN.out)
              obtain ⟨sn, hsn⟩ : ∃ z, nextI x0.win.sure (st + 1) = z := ⟨_, rfl⟩
              have HSN := Lib.hid hsn
              have GE := Lib.hid (next_ge (l := x0.win.sure) (t := st + 1))
              rw [hsn] at ON GE
              clear hsn
              have ws : IntKind.i64.wrap (st + 1) = st + 1 := by rw [IntKind.wrap_i64]; omega
              have yx := cell_onV YA.out B8.out
              go_wp2_with fail
              refine (implNextMinute x0.win.v x0.win.sure (st + 1) _ (SX0.out.below B8.out)).mono ?_
              rw [HSN.out]
              rintro e w9 ⟨rfl, hb9⟩
              have B9 := Lib.hid (B8.out.trans (hb9.mono B8.out.size))
              have K9 := Lib.hid (K8.out.below hb9)
              clear hb9 yx y8 u0 u1 u2
              go_wp2
              go_roundg gp
              case measure => omega
              case rel => exact ⟨sn, ot.set k nx, rfl, fun h => by have h1 := GE.out h; have h2 := HGP.out; omega, Lib.hid (by rw [List.length_set]; exact hot.out.1), ON, K9, B9⟩
            · have wsum : IntKind.i64.wrap (nx + mn) = nx + mn := by rw [IntKind.wrap_i64]; omega
              have HN := Lib.hid (show runTo (l.map LegR.d) st (k + 1) = some (os ++ [nx], nx + mn) by rw [runTo_next hR.out HXD.out]; show (if nextI L a < 0 then none else if a < nextI L a ∧ wt = false then none else some (os ++ [nextI L a], nextI L a + mn)) = _; rw [HNX.out, if_neg c1, if_neg c2])
              obtain ⟨g3, rfl⟩ : ∃ g3, gk = g3 + 1 := ⟨gk - 1, by have := hkg.out; omega⟩
              have HT := Lib.hid (show (ot.set k nx).length = l.length ∧ (ot.set k nx).take (k + 1) = os ++ [nx] from ⟨by rw [List.length_set]; exact hot.out.1, take_set_snoc hot.out.2 (by rw [hot.out.1]; exact hlt)⟩)
              by_cases c4 : a < nx
              · have c5 : wt = true := by cases wt with | true => rfl | false => exact absurd ⟨c4, rfl⟩ c2
                subst c5
                clear c2
                go_upto_region 14 with fail
                go_quiet (fail)
                go_wp2
                go_roundg g3
                case measure => omega
                case rel => exact ⟨k + 1, nx + mn, os ++ [nx], ot.set k nx, rfl, by go_num, by omega, Lib.hid (by have := hkg.out; omega), HN, HT, K8, Lib.hid (by repeat (first | exact B8.out | refine below_drewN ?_ _ | refine Below.drew ?_))⟩
              · clear c2
                go_upto_region 14 with fail
                go_quiet (fail)
                go_wp2
                go_roundg g3
                case measure => omega
                case rel => exact ⟨k + 1, nx + mn, os ++ [nx], ot.set k nx, rfl, by go_num, by omega, Lib.hid (by have := hkg.out; omega), HN, HT, K8, Lib.hid (by repeat (first | exact B8.out | refine below_drewN ?_ _ | refine Below.drew ?_))⟩
end Go.Proofs.YtooeikimoheecaaGreat
namespace Go.Proofs.YtooeikimoheecaaGreat
open Go.RowKit
set_option maxRecDepth 100000
theorem winr_one (A : Option Addr) (n c : Nat) (L : List WindowD) : ∀ u ∈ WinR.cells ⟨.slice A n c, L⟩, u.oneCell' = true := fun u hu => by simp [WinR.cells] at hu; rw [hu]; rfl
theorem wins_small {f : ForecastD} {d : ChartD} {s : ShipD} {r : List Int} {rows : List WinR} (h : rows.map WinR.sure = winsL f d s r) : ∀ x ∈ rows, x.sure.length ≤ 1000000000 := fun x hx => by
  have h1 : x.sure ∈ winsL f d s r := by rw [← h]; exact List.mem_map_of_mem hx
  obtain ⟨i, _, e⟩ := List.mem_map.1 h1
  rw [← e]
  have := starts_len false f d i s
  omega
set_option maxHeartbeats 8000000 in
theorem l08Starts_any (yf0 yf1 : Value) (f : ForecastD) (yd0 yd1 : Value) (d : ChartD) (s : ShipD) (yr : Value) (r : List Int) (w : World) (rf : RdForecast w yf0 yf1 f) (rd : RdChart w yd0 yd1 d) (rr : SlInt w yr r) (fd : ∀ x ∈ d.points, PointD.wf x) (fs : s.wf) :
    Calls Tryz.prog 52 #[.agg #[.int .i64 f.mean, yf0, yf1], .agg #[yd0, yd1], s.val, yr] w (fun e w' => ∃ v rows, e = .returned v ∧ rows.map WinR.sure = winsL f d s r ∧ RdWins w' v rows ∧ Below w.heap.size w w') := by
  have Rf := Lib.hid rf
  obtain ⟨rf0, rf1⟩ := rf
  obtain ⟨Af0, cf0, rfl⟩ := SlOf.form rf0
  obtain ⟨Af1, cf1, rfl⟩ := SlOf.form rf1
  clear rf0 rf1
  have Rd := Lib.hid rd
  obtain ⟨rd0, rd1⟩ := rd
  obtain ⟨Ad0, cd0, rfl⟩ := SlOf.form rd0
  obtain ⟨Ad1, cd1, rfl⟩ := SlOf.form rd1
  have Nd := Lib.hid fd
  clear fd
  clear rd0 rd1
  have Ns := Lib.hid fs
  clear fs
  have Rr := Lib.hid rr
  obtain ⟨Ar, cr, rfl⟩ := SlOf.form rr
  clear rr
  obtain ⟨W0, hW0⟩ : ∃ W0, W0 = (((w.alloc (.cells #[.int .i64 f.mean, .slice Af0 f.parts.length cf0, .slice Af1 f.surges.length cf1] 44)).alloc (.cells #[.slice Ad0 d.points.length cd0, .slice Ad1 d.segs.length cd1] 49)).alloc (.cells #[.string s.name, .int .i64 s.length, .int .i64 s.draught, .int .i64 s.line, .int .i64 s.tugs, .bool s.slow] 65)) := ⟨_, rfl⟩
  have B := Lib.hid (((Joins.below_alloc1 w (.cells #[.int .i64 f.mean, .slice Af0 f.parts.length cf0, .slice Af1 f.surges.length cf1] 44)).trans ((Joins.below_alloc1 (w.alloc (.cells #[.int .i64 f.mean, .slice Af0 f.parts.length cf0, .slice Af1 f.surges.length cf1] 44)) (.cells #[.slice Ad0 d.points.length cd0, .slice Ad1 d.segs.length cd1] 49)).mono (by simp; try omega))).trans ((Joins.below_alloc1 ((w.alloc (.cells #[.int .i64 f.mean, .slice Af0 f.parts.length cf0, .slice Af1 f.surges.length cf1] 44)).alloc (.cells #[.slice Ad0 d.points.length cd0, .slice Ad1 d.segs.length cd1] 49)) (.cells #[.string s.name, .int .i64 s.length, .int .i64 s.draught, .int .i64 s.line, .int .i64 s.tugs, .bool s.slow] 65)).mono (by simp; try omega)))
  have Kf := Lib.hid (((Blk.new w #[.int .i64 f.mean, .slice Af0 f.parts.length cf0, .slice Af1 f.surges.length cf1] 44).below (Joins.below_alloc1 _ (.cells #[.slice Ad0 d.points.length cd0, .slice Ad1 d.segs.length cd1] 49))).below (Joins.below_alloc1 _ (.cells #[.string s.name, .int .i64 s.length, .int .i64 s.draught, .int .i64 s.line, .int .i64 s.tugs, .bool s.slow] 65)))
  have Kd := Lib.hid ((Blk.new (w.alloc (.cells #[.int .i64 f.mean, .slice Af0 f.parts.length cf0, .slice Af1 f.surges.length cf1] 44)) #[.slice Ad0 d.points.length cd0, .slice Ad1 d.segs.length cd1] 49).below (Joins.below_alloc1 _ (.cells #[.string s.name, .int .i64 s.length, .int .i64 s.draught, .int .i64 s.line, .int .i64 s.tugs, .bool s.slow] 65)))
  rw [World.size_alloc] at Kd
  have Ks := Lib.hid (Blk.new ((w.alloc (.cells #[.int .i64 f.mean, .slice Af0 f.parts.length cf0, .slice Af1 f.surges.length cf1] 44)).alloc (.cells #[.slice Ad0 d.points.length cd0, .slice Ad1 d.segs.length cd1] 49)) #[.string s.name, .int .i64 s.length, .int .i64 s.draught, .int .i64 s.line, .int .i64 s.tugs, .bool s.slow] 65)
  rw [World.size_alloc, World.size_alloc] at Ks
  have HW0 := Lib.hid hW0
  rw [← hW0] at B Kf Kd Ks
  clear hW0
  have hrl := Rr.out.1
  obtain ⟨i0, hin0, hz0, hz1, hz2⟩ := info_windowS
  have HI := Lib.hid (And.intro hin0 (And.intro hz0 (And.intro hz1 hz2)))
  clear hin0 hz0 hz1 hz2
  go_enter Tryz.func52, Tryz.ntmps52
  go_upto_region 1 with fail
  rw [← HW0.out]
  go_upto_region 2 with fail
  have BL := Joins.below_alloc1 W0 (.cells #[] 111)
  have GM := GathO.made (k := 1) (cs := WinR.cells) (t := 111) (w := W0) (wr := W0) (Below.refl _ _)
  obtain ⟨wb, hwb⟩ : ∃ wb, wb = W0.alloc (.cells #[] 111) := ⟨_, rfl⟩
  rw [← hwb] at BL GM ⊢
  have GM0 := Lib.hid GM
  clear hwb BL GM
  go_wp2
  go_loopw [9, 15] (fun q i wr => ∃ (k : Nat) (rows : List WinR), k ≤ r.length ∧ rows.length = k ∧ i = .int .i64 (k : Int) ∧ Hid (rows.map WinR.sure = (r.take k).map (fun j => startsL false f d j s)) ∧ Hid (GathO 1 WinR.cells 111 W0 q rows wr) ∧ Hid (HoldW W0.heap.size wr q rows)) (fun _ i _ => r.length - (intOf i).toNat)
  case atStart => exact ⟨0, [], Nat.zero_le _, rfl, rfl, Lib.hid rfl, GM0, Lib.hid (HoldW.nil _ _ _)⟩
  case round =>
    clear GM0
    obtain ⟨k, rows, hk, hol, rfl, hS, hG, hH⟩ := hrel
    have HOL := Lib.hid hol
    obtain ⟨Qa, Qc, rfl⟩ := hG.out.form
    have hob : rows.length ≤ 1000000000 := by omega
    clear hol
    have hsz := hG.out.size
    have BR := Lib.hid (B.out.trans (hG.out.2.mono B.out.size))
    have Kf_r := Lib.hid (Kf.out.below hG.out.2)
    have Kd_r := Lib.hid (Kd.out.below hG.out.2)
    have Ks_r := Lib.hid (Ks.out.below hG.out.2)
    by_cases hlt : k < r.length
    rotate_left
    · obtain rfl : k = r.length := by omega
      have E := Lib.hid (show rows.map WinR.sure = winsL f d s r by rw [hS.out, List.take_length]; rfl)
      go_wp2
      go_ret
      exact ⟨_, rows, rfl, E.out, ⟨own_sl winRLen hG.out.1 (by omega), hH.out.rd (wins_small E.out)⟩, BR.out⟩
    obtain ⟨i, hi⟩ : ∃ i, r[k]? = some i := ⟨_, List.getElem?_eq_getElem hlt⟩
    rcases Rr.out.2 with ⟨he, _⟩ | ⟨gr, or', kr, e, rpos, rcap, rc⟩
    · rw [he] at hlt; simp at hlt
    injection e with hA' _ hcp'
    subst hA' hcp'
    have yr := cell_onV (SlInt.cells rc k _ hi) BR.out
    have NX := Lib.hid (show (r.take (k + 1)).map (fun j => startsL false f d j s) = (r.take k).map (fun j => startsL false f d j s) ++ [startsL false f d i s] by rw [take_snoc' r k i hi, List.map_append]; rfl)
    clear rc hi
    have vf0 : wr.cell? ⟨w.heap.size, 0, none⟩ = some (.int .i64 f.mean) := Kf_r.out.cell 0
    have vf1 : wr.cell? ⟨w.heap.size, 1, none⟩ = some (.slice Af0 f.parts.length cf0) := Kf_r.out.cell 1
    have vf2 : wr.cell? ⟨w.heap.size, 2, none⟩ = some (.slice Af1 f.surges.length cf1) := Kf_r.out.cell 2
    have vd0 : wr.cell? ⟨w.heap.size + 1, 0, none⟩ = some (.slice Ad0 d.points.length cd0) := Kd_r.out.cell 0
    have vd1 : wr.cell? ⟨w.heap.size + 1, 1, none⟩ = some (.slice Ad1 d.segs.length cd1) := Kd_r.out.cell 1
    have vs0 : wr.cell? ⟨w.heap.size + 2, 0, none⟩ = some (.string s.name) := Ks_r.out.cell 0
    have vs1 : wr.cell? ⟨w.heap.size + 2, 1, none⟩ = some (.int .i64 s.length) := Ks_r.out.cell 1
    have vs2 : wr.cell? ⟨w.heap.size + 2, 2, none⟩ = some (.int .i64 s.draught) := Ks_r.out.cell 2
    have vs3 : wr.cell? ⟨w.heap.size + 2, 3, none⟩ = some (.int .i64 s.line) := Ks_r.out.cell 3
    have vs4 : wr.cell? ⟨w.heap.size + 2, 4, none⟩ = some (.int .i64 s.tugs) := Ks_r.out.cell 4
    have vs5 : wr.cell? ⟨w.heap.size + 2, 5, none⟩ = some (.bool s.slow) := Ks_r.out.cell 5
    go_wp2_with fail
    clear vf0 vf1 vf2 vd0 vd1 vs0 vs1 vs2 vs3 vs4 vs5
    refine (specSureStarts _ _ f _ _ d i s _ (Rf.out.below BR.out) (Rd.out.below BR.out) Nd.out Ns.out).mono ?_
    rintro e w1 ⟨vp, rfl, ho, hb1⟩
    have B1 := Lib.hid (BR.out.trans (hb1.mono BR.out.size))
    have Kf_1 := Lib.hid (Kf_r.out.below hb1)
    have Kd_1 := Lib.hid (Kd_r.out.below hb1)
    have Ks_1 := Lib.hid (Ks_r.out.below hb1)
    have GQ := Lib.hid (hG.out.below hb1)
    have HQ := Lib.hid (hH.out.below hb1 )
    have AP := Lib.hid (apart_young hG.out.1 ho (Nat.le_refl _))
    have OP := Lib.hid (own_lo (base' := W0.heap.size) ho hsz)
    obtain ⟨Ap, cp, rfl⟩ := own_form ho
    clear ho hG hH
    clear hb1
    obtain ⟨L, hL⟩ : ∃ L, startsL false f d i s = L := ⟨_, rfl⟩
    rw [hL] at NX AP OP ⊢
    clear hL
    have BX := Joins.below_alloc1 w1 (.cells #[.slice Ap L.length cp] 111)
    have GW := Lib.hid (GQ.out.below BX)
    have OW := Lib.hid (own_below OP.out BX)
    have HW := Lib.hid (HQ.out.below BX)
    have HN := Lib.hid (World.news_of_block (heap_alloc_new w1 (.cells #[.slice Ap L.length cp] 111)))
    have HN' := Lib.hid (show ∀ j z, (WinR.cells (⟨.slice Ap L.length cp, L⟩ : WinR))[j]? = some z → (w1.alloc (.cells #[.slice Ap L.length cp] 111)).cell? ((⟨w1.heap.size, 0, none⟩ : Addr).add j) = some z from fun j z hz => HN.out j z (by simpa [WinR.cells] using hz))
    have hs3 := GQ.out.size
    clear BX
    go_wp2_with (go_loud (at_builtin; refine wpList_append_lies _ rfl _ _ _ rfl W0.heap.size 111 i0 _ 1 24 Tryz.underlying93 HI.out.1 HI.out.2.1 HI.out.2.2.1 HI.out.2.2.2 rfl (by omega) (.slice Qa rows.length Qc) rows.length (rows.flatMap WinR.cells) rfl GW.out.1 ⟨w1.heap.size, 0, none⟩ 1 1 (WinR.cells (⟨.slice Ap L.length cp, L⟩ : WinR)) (by first | rfl | simp) rfl HN'.out (winr_one _ _ _ _) (by omega) (by unfold maxLen; omega) (by omega) (by first | omega | (simp; done) | (simp; omega)) _ rfl ?_; intro g4 cap4 w4 hown4 hgrow4 hor4 hlt4; have T4 := Lib.hid (And.intro hown4 (And.intro hgrow4 hor4)); clear hown4 hgrow4 hor4 hlt4))
    have GX := Lib.hid (GW.out.next (x := (⟨.slice Ap L.length cp, L⟩ : WinR)) T4.out.1 T4.out.2.1)
    have HX := Lib.hid (HW.out.next (x := (⟨.slice Ap L.length cp, L⟩ : WinR)) (n4 := rows.length + 1) (cap4 := cap4) ⟨OW.out, AP.out⟩ T4.out.2.1 T4.out.2.2)
    go_roundw
    case rel => exact ⟨k + 1, rows ++ [(⟨.slice Ap L.length cp, L⟩ : WinR)], by omega, by have := HOL.out; simp; omega, by go_num, Lib.hid (by rw [List.map_append, hS.out, NX.out]; rfl), GX, HX⟩
    case measure => simp [intOf]; omega
end Go.Proofs.YtooeikimoheecaaGreat
