
/- What InOrderLaw rests on, part 45: contracts and mathematics. -/
import Derived.Test.YtooeikimoheecaaIo43
import Derived.Test.YtooeikimoheecaaIo16
import Derived.Test.YtooeikimoheecaaIo6
import Derived.StillTailTactics
import Derived.Deep.DeepCutAuto
import Derived.Deep.LoopGhost
import Derived.WalkMore
import Derived.Test.YtooeikimoheecaaIo44
namespace Go.Proofs.Ytooeikimoheecaa
open Go.RowKit
set_option maxRecDepth 100000
/-- What a search among the legs from first to last leaves. -/
def SailRes (l : List LegR) (first last : Int) (x : Option (List Int)) : Prop := (l = [] → x = none) ∧ ∀ l0, l[0]? = some l0 → Found l0.win.sure (l.map LegR.d) first last x
/-- The search has come to the start st. -/
def OutSt (L : List WindowD) (legs : List LegD) (first last st : Int) : Prop := Past L legs first st ∧ (st < 0 ∨ last < st → Found L legs first last none) ∧ (0 ≤ st → hasB L st = true ∧ first ≤ st ∧ st ≤ 2880)
theorem OutSt.start {L : List WindowD} (hw : WOk L) (legs : List LegD) (first last : Int) : OutSt L legs first last (nextI L first) :=
  ⟨(Past.zero L legs first).next hw, (Past.zero L legs first).end hw, fun h => next_has h⟩
theorem OutSt.next {L : List WindowD} {legs : List LegD} {first last st : Int} (hw : WOk L) (h : OutSt L legs first last st) (h0 : 0 ≤ st) (hn : runTo legs st legs.length = none) : OutSt L legs first last (nextI L (st + 1)) := by
  have hs := h.1.skip hn
  have h1 := (h.2.2 h0).2.1
  refine ⟨hs.next hw, hs.end hw, fun h2 => ?_⟩
  have := next_has h2
  exact ⟨this.1, by omega, this.2.2⟩
def intsV (l : List Int) : Array Value := (l.map (Value.int .i64)).toArray
theorem blk_set_int {w : World} {b k : Nat} {l : List Int} {x : Int} (h : Blk w b (intsV l) 3) : Blk (w.setCell ⟨b, k, none⟩ (.int .i64 x)) b (intsV (l.set k x)) 3 := by
  have := h.set k (.int .i64 x)
  rw [show (intsV l).setIfInBounds k (.int .i64 x) = intsV (l.set k x) by simp [intsV, List.map_set]] at this
  exact this
theorem blk_cell_int {w : World} {b k : Nat} {l : List Int} {x : Int} (h : Blk w b (intsV l) 3) (hx : l[k]? = some x) : w.cell? ⟨b, k, none⟩ = some (.int .i64 x) := by
  rw [h.cell k]
  simp [intsV, hx]
theorem own_blk_int {w : World} {b base : Nat} {l : List Int} (h : Blk w b (intsV l) 3) (hb : base ≤ b) (hl : l.length ≤ 1000000000) : OwnInt w base (.slice (some ⟨b, 0, none⟩) l.length l.length) l := by
  have e : l.flatMap intCells = l.map (Value.int .i64) := by
    clear h hl
    induction l with
    | nil => rfl
    | cons x l ih => simp [intCells, ih]
  refine ⟨by rw [e]; simp, .inr ⟨b, l.length, intsV l, rfl, hb, h, Nat.le_refl _, by unfold maxLen; omega, by simp [intsV], by rw [e]; simp [intsV, List.take_of_length_le]⟩⟩
theorem leg_ints (n : Nat) (hn : n ≤ 1000000000) (W : World) :
    (Instr.makeSlice 36 (.int .i64 (n : Int)) (.int .i64 (n : Int))).run Try.prog W = .ok (.slice (some ⟨W.heap.size, 0, none⟩) n n) (W.alloc (.cells (madeCells #[.int .i64 0] (n * 1)) 3)) := by
  obtain ⟨i0, hi, hz0, hz1, hz2⟩ := info_parts info_int
  have hr := run_make (P := Try.prog) W 36 3 i0 _ Try.underlying36 hi hz0 .i64 .i64 n n (by omega) (Int.le_refl _) (by rw [hz2]; omega) (by omega)
  simp only [Int.toNat_natCast, hz1] at hr
  exact hr
theorem made_ints (n : Nat) : madeCells #[.int .i64 0] n = intsV (List.replicate n 0) := by
  have e := made_flat #[.int .i64 0] n
  rw [show (#[Value.int .i64 0]).size = 1 from rfl, Nat.mul_one] at e
  apply Array.toList_inj.1
  rw [e]
  simp [intsV]
theorem take_set_snoc {l : List Int} {k : Nat} {x : Int} {o : List Int} (h : l.take k = o) (hk : k < l.length) : (l.set k x).take (k + 1) = o ++ [x] := by
  rw [take_snoc' (l.set k x) k x (by simp [hk]), List.take_set_of_le (Nat.le_refl _), h]
set_option maxHeartbeats 8000000 in
theorem sailLegs_any (v : Value) (l : List LegR) (first last : Int) (w : World) (h : RdLegs w v l) (hw : ∀ x ∈ l, WOk x.win.sure) (hm : ∀ l0, l[0]? = some l0 → l0.win.sure ≠ [] → ∀ x ∈ l, 0 ≤ x.mins ∧ x.mins ≤ 480) :
    Calls Try.prog 49 #[v, .int .i64 first, .int .i64 last] w (fun e w' => ∃ x, SailRes l first last x ∧ SailPost x w e w') := by
  have hl := h.1.1
  have HRS := Lib.hid h.2
  rcases h.1.2 with ⟨rfl, A, c, rfl⟩ | ⟨g, o, c, rfl, hpos, hcap, hc⟩
  · clear h hw hm
    go_enter Try.func49, Try.ntmps49
    go_wp2
    go_step3
    go_wp2
    rw [Exit.noGoto_ret]
    refine bodyPost_ret (v := .tuple #[.slice none 0 0, .bool false]) (by simp [results, Try.results49, go_sem, *]) rfl ⟨none, ⟨fun _ => rfl, fun l0 h0 => by simp at h0⟩, SailPost.no rfl (Below.refl _ _)⟩
  · have HC := Lib.hid (LegR.at hc)
    have HW := Lib.hid hw
    have HM := Lib.hid hm
    obtain ⟨x0, hx0⟩ : ∃ x, l[0]? = some x := ⟨_, List.getElem?_eq_getElem hpos⟩
    have HX0 := Lib.hid hx0
    have ya := (HC.out 0 x0 hx0).1
    rw [Nat.zero_mul, Nat.add_zero] at ya
    have YA := Lib.hid ya
    have SX0 := Lib.hid (HRS.out x0 (List.mem_of_getElem? hx0))
    have W0K := Lib.hid (hw x0 (List.mem_of_getElem? hx0))
    have HML := Lib.hid (show (l.map LegR.d).length = l.length from List.length_map _)
    have hl0 : ((l.length : Int) == 0) = false := by rw [beq_eq_false_iff_ne]; omega
    have hmk := leg_ints l.length hl
    clear h hw hm hc hx0 ya
    go_enter Try.func49, Try.ntmps49
    go_wp2
    go_step3
    go_wp2
    go_step3
    obtain ⟨W1, hW1⟩ : ∃ W1, W1 = w.alloc (.cells (madeCells #[.int .i64 0] l.length) 3) := ⟨_, rfl⟩
    have B1 := Lib.hid (Joins.below_alloc1 w (.cells (madeCells #[.int .i64 0] l.length) 3))
    have KS := Lib.hid (Blk.new w (madeCells #[.int .i64 0] l.length) 3)
    rw [← hW1] at B1 KS ⊢
    rw [made_ints] at KS
    have y1 := cell_onV YA.out B1.out
    clear hW1 hmk
    go_wp2_with fail
    refine (implNextMinute x0.win.v x0.win.sure first _ (SX0.out.below B1.out)).mono ?_
    rintro e w2 ⟨rfl, hb2⟩
    have B2 := Lib.hid (B1.out.trans (hb2.mono B1.out.size))
    have K2 := Lib.hid (KS.out.below hb2)
    have OS := Lib.hid (OutSt.start W0K.out (l.map LegR.d) first last)
    have on := fun h => (OS.out.2.2 h).1
    obtain ⟨st0, hst0⟩ : ∃ z, nextI x0.win.sure first = z := ⟨_, rfl⟩
    rw [hst0] at OS ⊢
    clear hb2 y1 hst0 B1 KS on
    go_wp2
    go_loopg [9] 2881 (fun g9 p wx => ∃ (st : Int) (out : List Int), p = .int .i64 st ∧ (0 ≤ st → 2881 ≤ st + (g9 : Int)) ∧ Hid (out.length = l.length) ∧ Hid (OutSt x0.win.sure (l.map LegR.d) first last st) ∧ Hid (Blk wx w.heap.size (intsV out) 3) ∧ Hid (Below w.heap.size w wx))
    case atStart => exact ⟨st0, List.replicate l.length 0, rfl, fun h => by omega, Lib.hid (by simp), OS, K2, B2⟩
    case round =>
      clear OS K2 B2
      obtain ⟨st, out, rfl, hg9, hol, hO, hK, hB⟩ := hrel
      have FIN : Hid (Found x0.win.sure (l.map LegR.d) first last none → SailRes l first last none) := Lib.hid (fun hf => ⟨fun _ => rfl, fun l0 h0 => by have e := HX0.out; rw [h0] at e; injection e with e; rw [e]; exact hf⟩)
      by_cases hs0 : 0 ≤ st
      rotate_left
      · have F := Lib.hid (FIN.out (hO.out.2.1 (.inl (by omega))))
        go_wp2
        try rw [Exit.noGoto_ret]
        refine bodyPost_ret (v := .tuple #[.slice none 0 0, .bool false]) (by simp [results, Try.results49, go_sem, *]) rfl ⟨none, F.out, SailPost.no rfl hB.out⟩
      by_cases hs1 : st ≤ last
      rotate_left
      · have F := Lib.hid (FIN.out (hO.out.2.1 (.inr (by omega))))
        go_wp2
        try rw [Exit.noGoto_ret]
        refine bodyPost_ret (v := .tuple #[.slice none 0 0, .bool false]) (by simp [results, Try.results49, go_sem, *]) rfl ⟨none, F.out, SailPost.no rfl hB.out⟩
      obtain ⟨hh, hf, hs2⟩ := hO.out.2.2 hs0
      have HMM := Lib.hid (HM.out x0 HX0.out (fun e => by rw [e] at hh; cases hh))
      have HMD := Lib.hid (show ∀ z ∈ l.map LegR.d, 0 ≤ z.mins ∧ z.mins ≤ 480 from fun z hz => by obtain ⟨y, hy, e⟩ := List.mem_map.1 hz; rw [← e]; exact HMM.out y hy)
      have HHH := Lib.hid hh
      obtain ⟨gp, rfl⟩ : ∃ gp, gk = gp + 1 := ⟨gk - 1, by have := hg9 hs0; omega⟩
      have HGP := Lib.hid (show 2881 ≤ st + ((gp + 1 : Nat) : Int) from hg9 hs0)
      clear hg9 hh
      go_wp2
      go_loopg [10, 42] l.length (fun g2 p q wy => ∃ (k : Nat) (a : Int) (os ot : List Int), p = .int .i64 a ∧ q = .int .i64 (k : Int) ∧ k ≤ l.length ∧ Hid (k + g2 = l.length) ∧ Hid (runTo (l.map LegR.d) st k = some (os, a)) ∧ Hid (ot.length = l.length ∧ ot.take k = os) ∧ Hid (Blk wy w.heap.size (intsV ot) 3) ∧ Hid (Below w.heap.size w wy))
      case atStart => exact ⟨0, st, [], out, rfl, rfl, Nat.zero_le _, Lib.hid (by omega), Lib.hid rfl, Lib.hid ⟨hol.out, rfl⟩, hK, hB⟩
      case round =>
        clear hK hB
        obtain ⟨k, a, os, ot, rfl, rfl, hkl, hkg, hR, hot, hK, hB⟩ := hrel
        by_cases hlt : k < l.length
        rotate_left
        · have hke : k = l.length := by omega
          have F : Hid (SailRes l first last (some ot)) := Lib.hid ⟨(fun e => by rw [e] at hpos; cases hpos), fun l0 h0 => by
            have e := HX0.out
            rw [h0] at e
            injection e with e
            rw [e]
            have h1 := hR.out
            rw [hke] at h1
            have h2 := hot.out.2
            rw [hke, ← hot.out.1, List.take_length] at h2
            rw [h2]
            exact hO.out.1.hit hf hs1 HHH.out (by rw [HML.out]; exact h1)⟩
          have OW := Lib.hid (own_blk_int (base := w.heap.size) hK.out (Nat.le_refl _) (by rw [hot.out.1]; omega))
          rw [hot.out.1] at OW
          clear hke
          go_wp2
          try rw [Exit.noGoto_ret]
          refine bodyPost_ret (v := .tuple #[.slice (some ⟨w.heap.size, 0, none⟩) l.length l.length, .bool true]) (by simp [results, Try.results49, go_sem, *]) rfl ⟨some ot, F.out, SailPost.yes rfl OW.out hB.out⟩
        · obtain ⟨x, hx⟩ : ∃ x, l[k]? = some x := ⟨_, List.getElem?_eq_getElem hlt⟩
          obtain ⟨⟨xv, L⟩, mn, wt⟩ := x
          obtain ⟨Ax, cx, hxv⟩ : ∃ Ax cx, xv = .slice Ax L.length cx := SlOf.form (HRS.out _ (List.mem_of_getElem? hx))
          subst hxv
          obtain ⟨q0, q1, q2⟩ := HC.out k _ hx
          dsimp only at q0 q1 q2
          have z0 := cell_onV q0 hB.out
          have z1 := cell_onV q1 hB.out
          have z2 := cell_onV q2 hB.out
          have SX := Lib.hid (show SlWindow w (.slice Ax L.length cx) L from HRS.out _ (List.mem_of_getElem? hx))
          have HXD := Lib.hid (show (l.map LegR.d)[k]? = some ⟨L, mn, wt⟩ by rw [List.getElem?_map, hx]; rfl)
          obtain ⟨m0, m1⟩ : 0 ≤ mn ∧ mn ≤ 480 := HMM.out _ (List.mem_of_getElem? hx)
          obtain ⟨a0, a1⟩ := runTo_bnd ⟨hs0, hs2⟩ HMD.out k hR.out
          clear q0 q1 q2 hx
          go_upto_region 11 with fail
          have BL := Joins.below_alloc1 wr (.cells #[.slice Ax L.length cx, .int .i64 mn, .bool wt] 145)
          have KN := Blk.new wr #[.slice Ax L.length cx, .int .i64 mn, .bool wt] 145
          obtain ⟨w6, hw6⟩ : ∃ w6, w6 = wr.alloc (.cells #[.slice Ax L.length cx, .int .i64 mn, .bool wt] 145) := ⟨_, rfl⟩
          rw [← hw6] at BL KN ⊢
          have B6 := Lib.hid (hB.out.trans (BL.mono hB.out.size))
          have K6 := Lib.hid (hK.out.below BL)
          have KX := Lib.hid KN
          have hgs : w.heap.size < wr.heap.size := hK.out.lt
          have v0 : w6.cell? ⟨wr.heap.size, 0, none⟩ = some (.slice Ax L.length cx) := KN.cell 0
          clear hw6 BL KN z0 z1 z2
          obtain ⟨nx, hnx⟩ : ∃ z, nextI L a = z := ⟨_, rfl⟩
          have HNX := Lib.hid hnx
          clear hnx
          go_wp2_with fail
          refine (implNextMinute _ L a _ (SX.out.below B6.out)).mono ?_
          rw [HNX.out]
          rintro e w7 ⟨rfl, hb7⟩
          have B7 := Lib.hid (B6.out.trans (hb7.mono B6.out.size))
          have K7 := Lib.hid (K6.out.below hb7)
          have KX7 := Lib.hid (KX.out.below hb7)
          obtain ⟨t, ht⟩ : ∃ z, ot[k]? = some z := ⟨_, List.getElem?_eq_getElem (by rw [hot.out.1]; exact hlt)⟩
          have y7 := blk_cell_int K7.out ht
          have f7 := K7.out.free k
          clear hb7 v0 ht
          go_upto_region 12 with fail
          have K8 := Lib.hid (blk_set_int (k := k) (x := nx) K7.out)
          have B8 := Lib.hid (B7.out.setCell (p := ⟨w.heap.size, k, none⟩) (Nat.le_refl _) (.int .i64 nx))
          have KX8 := Lib.hid (KX7.out.other (b' := w.heap.size) (by omega) k (.int .i64 nx))
          obtain ⟨w8, hw8⟩ : ∃ w8, w8 = w7.setCell ⟨w.heap.size, k, none⟩ (.int .i64 nx) := ⟨_, rfl⟩
          rw [← hw8] at K8 B8 KX8 ⊢
          clear hw8 y7 f7 K7 KX7 K6 KX
          have y8 := blk_cell_int K8.out (x := nx) (k := k) (by rw [List.getElem?_set_self (by rw [hot.out.1]; exact hlt)])
          have u0 : w8.cell? ⟨wr.heap.size, 0, none⟩ = some (.slice Ax L.length cx) := KX8.out.cell 0
          have u1 : w8.cell? ⟨wr.heap.size, 1, none⟩ = some (.int .i64 mn) := KX8.out.cell 1
          have u2 : w8.cell? ⟨wr.heap.size, 2, none⟩ = some (.bool wt) := KX8.out.cell 2
          by_cases c1 : nx < 0
          · have F := Lib.hid (FIN.out (hO.out.1.dead (last := last) hR.out HXD.out (by show nextI L a < 0; rw [HNX.out]; exact c1)))
            go_wp2
            try rw [Exit.noGoto_ret]
            refine bodyPost_ret (v := .tuple #[.slice none 0 0, .bool false]) (by simp [results, Try.results49, go_sem, *]) rfl ⟨none, F.out, SailPost.no rfl B8.out⟩
          · have hge := next_ge (l := L) (t := a) (by rw [HNX.out]; omega)
            rw [HNX.out] at hge
            have hle := next_le (l := L) (t := a) (by rw [HNX.out]; omega)
            rw [HNX.out] at hle
            by_cases c2 : a < nx ∧ wt = false
            · obtain ⟨c2, c3⟩ := c2
              subst c3
              have HN := Lib.hid (show runTo (l.map LegR.d) st (l.map LegR.d).length = none from runTo_none (k := k + 1) (by rw [runTo_next hR.out HXD.out]; show (if nextI L a < 0 then none else if a < nextI L a ∧ false = false then none else _) = none; rw [HNX.out, if_neg c1, if_pos ⟨c2, rfl⟩]) _ (by rw [HML.out]; omega))
              have ON := Lib.hid (hO.out.next W0K.out hs0 HN.out)
              obtain ⟨sn, hsn⟩ : ∃ z, nextI x0.win.sure (st + 1) = z := ⟨_, rfl⟩
              have HSN := Lib.hid hsn
              have GE := Lib.hid (next_ge (l := x0.win.sure) (t := st + 1))
              rw [hsn] at ON GE
              clear hsn
              have ws : IntKind.i64.wrap (st + 1) = st + 1 := by rw [IntKind.wrap_i64]; omega
              have yx := cell_onV YA.out B8.out
              go_wp2_with fail
              refine (implNextMinute x0.win.v x0.win.sure (st + 1) _ (SX0.out.below B8.out)).mono ?_
              rw [HSN.out]
              rintro e w9 ⟨rfl, hb9⟩
              have B9 := Lib.hid (B8.out.trans (hb9.mono B8.out.size))
              have K9 := Lib.hid (K8.out.below hb9)
              clear hb9 yx y8 u0 u1 u2
              go_wp2
              go_roundg gp
              case measure => omega
              case rel => exact ⟨sn, ot.set k nx, rfl, fun h => by have h1 := GE.out h; have h2 := HGP.out; omega, Lib.hid (by rw [List.length_set]; exact hot.out.1), ON, K9, B9⟩
            · have wsum : IntKind.i64.wrap (nx + mn) = nx + mn := by rw [IntKind.wrap_i64]; omega
              have HN := Lib.hid (show runTo (l.map LegR.d) st (k + 1) = some (os ++ [nx], nx + mn) by rw [runTo_next hR.out HXD.out]; show (if nextI L a < 0 then none else if a < nextI L a ∧ wt = false then none else some (os ++ [nextI L a], nextI L a + mn)) = _; rw [HNX.out, if_neg c1, if_neg c2])
              obtain ⟨g3, rfl⟩ : ∃ g3, gk = g3 + 1 := ⟨gk - 1, by have := hkg.out; omega⟩
              have HT := Lib.hid (show (ot.set k nx).length = l.length ∧ (ot.set k nx).take (k + 1) = os ++ [nx] from ⟨by rw [List.length_set]; exact hot.out.1, take_set_snoc hot.out.2 (by rw [hot.out.1]; exact hlt)⟩)
              by_cases c4 : a < nx
              · have c5 : wt = true := by cases wt with | true => rfl | false => exact absurd ⟨c4, rfl⟩ c2
                subst c5
                clear c2
                go_upto_region 14 with fail
                go_quiet (fail)
                go_wp2
                go_roundg g3
                case measure => omega
                case rel => exact ⟨k + 1, nx + mn, os ++ [nx], ot.set k nx, rfl, by go_num, by omega, Lib.hid (by have := hkg.out; omega), HN, HT, K8, Lib.hid (by repeat (first | exact B8.out | refine below_drewN ?_ _ | refine Below.drew ?_))⟩
              · clear c2
                go_upto_region 14 with fail
                go_quiet (fail)
                go_wp2
                go_roundg g3
                case measure => omega
                case rel => exact ⟨k + 1, nx + mn, os ++ [nx], ot.set k nx, rfl, by go_num, by omega, Lib.hid (by have := hkg.out; omega), HN, HT, K8, Lib.hid (by repeat (first | exact B8.out | refine below_drewN ?_ _ | refine Below.drew ?_))⟩
end Go.Proofs.Ytooeikimoheecaa
namespace Go.Proofs.Ytooeikimoheecaa
open Go.RowKit
set_option maxRecDepth 100000
/-- What the search over the legs of a route finds tells of the sailed route. -/
theorem legs_bad {f : ForecastD} {d : ChartD} {s : ShipD} {fr : Int} {r : List Int} {rows : List LegR} {a b : Int} {x : Option (List Int)} (hm : rows.map LegR.d = (if routeB d fr r = true then legsL f d s (rteL d fr r) r else [])) (hx : SailRes rows a b x) (hp : sailPre f d s fr r = false) : x = none := by
  cases rows with
  | nil => exact hx.1 rfl
  | cons l0 rows =>
    have h0 := hx.2 l0 rfl
    cases hr : routeB d fr r with
    | false => rw [hr] at hm; cases hm
    | true =>
      rw [hr, if_pos rfl] at hm
      have e0 : (legsL f d s (rteL d fr r) r)[0]? = some l0.d := by rw [← hm]; rfl
      have hne : r ≠ [] := fun e => by rw [e] at e0; unfold legsL at e0; simp at e0
      have hbad : fcB f.mean f.parts f.surges = false ∨ shipB s = false := by
        unfold sailPre at hp
        rw [hr] at hp
        cases r with
        | nil => exact absurd rfl hne
        | cons i r => cases h1 : fcB f.mean f.parts f.surges <;> cases h2 : shipB s <;> simp_all
      have hs : l0.win.sure = [] := by
        obtain ⟨i, _, e⟩ := List.mem_map.1 (List.mem_of_getElem? e0)
        have e2 : l0.win.sure = startsL false f d i.1 s := (congrArg LegD.sure e).symm
        rw [e2]
        refine startsL_bad ?_
        rcases hbad with h | h
        · exact .inl h
        · right; unfold sailB; rw [h]; simp
      rw [hs] at h0
      cases x with
      | none => rfl
      | some out => obtain ⟨m, a, -, -, hh, -⟩ := h0; cases hh
theorem legs_found {f : ForecastD} {d : ChartD} {s : ShipD} {fr : Int} {r : List Int} {rows : List LegR} {a b : Int} {x : Option (List Int)} (hm : rows.map LegR.d = (if routeB d fr r = true then legsL f d s (rteL d fr r) r else [])) (hx : SailRes rows a b x) (hp : sailPre f d s fr r = true) :
    Found ((winsL f d s r).getD 0 []) (legsL f d s (rteL d fr r) r) a b x ∧ WOk ((winsL f d s r).getD 0 []) := by
  have hp' := hp
  unfold sailPre at hp'
  simp only [Bool.and_eq_true, Bool.not_eq_true'] at hp'
  obtain ⟨⟨⟨h1, h2⟩, h3⟩, h4⟩ := hp'
  rw [h3, if_pos rfl] at hm
  have hlen : (legsL f d s (rteL d fr r) r).length = r.length := legsL_len (by rw [(route_facts h3).2.1]; omega)
  cases rows with
  | nil =>
    have e : r.length = 0 := by rw [← hlen, ← hm]; rfl
    rw [List.eq_nil_of_length_eq_zero e] at h4
    cases h4
  | cons l0 rows =>
    have e0 : (legsL f d s (rteL d fr r) r)[0]? = some l0.d := by rw [← hm]; rfl
    have ew := wins_head e0
    rw [ew]
    refine ⟨by rw [← hm]; exact hx.2 l0 rfl, ?_⟩
    obtain ⟨i, _, e⟩ := List.mem_map.1 (List.mem_of_getElem? e0)
    have e2 : l0.d.sure = startsL false f d i.1 s := (congrArg LegD.sure e).symm
    rw [e2]
    exact starts_wok false f d i.1 s
theorem legs_wok {f : ForecastD} {d : ChartD} {s : ShipD} {fr : Int} {r : List Int} {rows : List LegR} (hm : rows.map LegR.d = (if routeB d fr r = true then legsL f d s (rteL d fr r) r else [])) : ∀ x ∈ rows, ∃ i p, x.d = legOf f d s i p := fun x hx => by
  have h1 : x.d ∈ rows.map LegR.d := List.mem_map_of_mem hx
  rw [hm] at h1
  split at h1
  · obtain ⟨i, _, e⟩ := List.mem_map.1 h1
    exact ⟨i.1, i.2, e.symm⟩
  · cases h1
theorem legs_wok' {f : ForecastD} {d : ChartD} {s : ShipD} {fr : Int} {r : List Int} {rows : List LegR} (hm : rows.map LegR.d = (if routeB d fr r = true then legsL f d s (rteL d fr r) r else [])) : ∀ x ∈ rows, WOk x.win.sure := fun x hx => by
  obtain ⟨i, p, e⟩ := legs_wok hm x hx
  have e2 : x.win.sure = startsL false f d i s := congrArg LegD.sure e
  rw [e2]
  exact starts_wok false f d i s
theorem legs_mins {f : ForecastD} {d : ChartD} {s : ShipD} {fr : Int} {r : List Int} {rows : List LegR} (hm : rows.map LegR.d = (if routeB d fr r = true then legsL f d s (rteL d fr r) r else [])) : ∀ l0, rows[0]? = some l0 → l0.win.sure ≠ [] → ∀ x ∈ rows, 0 ≤ x.mins ∧ x.mins ≤ 480 := fun l0 h0 hne x hx => by
  have hr : routeB d fr r = true := by
    cases hr : routeB d fr r with
    | true => rfl
    | false =>
      rw [hr] at hm
      rw [if_neg (by simp)] at hm
      have := List.map_eq_nil_iff.1 hm
      rw [this] at hx
      cases hx
  obtain ⟨i0, p0, e0⟩ := legs_wok hm l0 (List.mem_of_getElem? h0)
  have e1 : l0.win.sure = startsL false f d i0 s := congrArg LegD.sure e0
  have hsb : sailB d i0 s = true := by
    cases h : sailB d i0 s with
    | true => rfl
    | false => exact absurd (e1.trans (startsL_bad (.inr h))) hne
  have hsh : shipB s = true := by unfold sailB at hsb; simp only [Bool.and_eq_true] at hsb; exact hsb.1.2
  obtain ⟨hcb, hpl, hpin, hsin⟩ := route_facts hr
  rw [hr, if_pos rfl] at hm
  have h1 : x.d ∈ legsL f d s (rteL d fr r) r := by rw [← hm]; exact List.mem_map_of_mem hx
  obtain ⟨⟨i, p⟩, hip, e⟩ := List.mem_map.1 h1
  obtain ⟨g, hg, hgx, -⟩ := hsin i (List.of_mem_zip hip).1
  have e3 : x.mins = minOn d i s := (congrArg LegD.mins e).symm
  rw [e3, minOn_ok hcb hsh hg]
  obtain ⟨-, -, -, -, -, -, -, m0, m1⟩ := segB_true (chartB_seg hcb hgx)
  unfold onMin
  split <;> omega
theorem res_first {f : ForecastD} {d : ChartD} {s : ShipD} {fr : Int} {r : List Int} {rows : List LegR} {st : Int} {x : Option (List Int)} (hm : rows.map LegR.d = (if routeB d fr r = true then legsL f d s (rteL d fr r) r else [])) (hx : SailRes rows st 2880 x) : firstSail f d s fr r st = x := by
  cases hp : sailPre f d s fr r with
  | false => rw [firstSail_bad hp, legs_bad hm hx hp]
  | true => exact found_first hp (legs_found hm hx hp).2 (legs_found hm hx hp).1
set_option maxHeartbeats 4000000 in
theorem implFirstSail (yf0 yf1 : Value) (f : ForecastD) (yd0 yd1 : Value) (d : ChartD) (s : ShipD) (fr : Int) (yr : Value) (r : List Int) (st : Int) (w : World) (rf : RdForecast w yf0 yf1 f) (rd : RdChart w yd0 yd1 d) (rr : SlInt w yr r) (fd : ∀ x ∈ d.points, PointD.wf x) (fs : s.wf) :
    Calls Try.prog 10 #[.agg #[.int .i64 f.mean, yf0, yf1], .agg #[yd0, yd1], s.val, .int .i64 fr, yr, .int .i64 st] w (SailPost (firstSail f d s fr r st) w) := by
  have Rf := Lib.hid rf
  obtain ⟨rf0, rf1⟩ := rf
  obtain ⟨Af0, cf0, rfl⟩ := SlOf.form rf0
  obtain ⟨Af1, cf1, rfl⟩ := SlOf.form rf1
  clear rf0 rf1
  have Rd := Lib.hid rd
  obtain ⟨rd0, rd1⟩ := rd
  obtain ⟨Ad0, cd0, rfl⟩ := SlOf.form rd0
  obtain ⟨Ad1, cd1, rfl⟩ := SlOf.form rd1
  have Nd := Lib.hid fd
  clear fd
  clear rd0 rd1
  have Ns := Lib.hid fs
  clear fs
  have Rr := Lib.hid rr
  obtain ⟨Ar, cr, rfl⟩ := SlOf.form rr
  clear rr
  obtain ⟨W0, hW0⟩ : ∃ W0, W0 = (((w.alloc (.cells #[.int .i64 f.mean, .slice Af0 f.parts.length cf0, .slice Af1 f.surges.length cf1] 28)).alloc (.cells #[.slice Ad0 d.points.length cd0, .slice Ad1 d.segs.length cd1] 32)).alloc (.cells #[.string s.name, .int .i64 s.length, .int .i64 s.draught, .int .i64 s.line, .int .i64 s.tugs, .bool s.slow] 46)) := ⟨_, rfl⟩
  have B := Lib.hid (((Joins.below_alloc1 w (.cells #[.int .i64 f.mean, .slice Af0 f.parts.length cf0, .slice Af1 f.surges.length cf1] 28)).trans ((Joins.below_alloc1 (w.alloc (.cells #[.int .i64 f.mean, .slice Af0 f.parts.length cf0, .slice Af1 f.surges.length cf1] 28)) (.cells #[.slice Ad0 d.points.length cd0, .slice Ad1 d.segs.length cd1] 32)).mono (by simp; try omega))).trans ((Joins.below_alloc1 ((w.alloc (.cells #[.int .i64 f.mean, .slice Af0 f.parts.length cf0, .slice Af1 f.surges.length cf1] 28)).alloc (.cells #[.slice Ad0 d.points.length cd0, .slice Ad1 d.segs.length cd1] 32)) (.cells #[.string s.name, .int .i64 s.length, .int .i64 s.draught, .int .i64 s.line, .int .i64 s.tugs, .bool s.slow] 46)).mono (by simp; try omega)))
  have Kf := Lib.hid (((Blk.new w #[.int .i64 f.mean, .slice Af0 f.parts.length cf0, .slice Af1 f.surges.length cf1] 28).below (Joins.below_alloc1 _ (.cells #[.slice Ad0 d.points.length cd0, .slice Ad1 d.segs.length cd1] 32))).below (Joins.below_alloc1 _ (.cells #[.string s.name, .int .i64 s.length, .int .i64 s.draught, .int .i64 s.line, .int .i64 s.tugs, .bool s.slow] 46)))
  have Kd := Lib.hid ((Blk.new (w.alloc (.cells #[.int .i64 f.mean, .slice Af0 f.parts.length cf0, .slice Af1 f.surges.length cf1] 28)) #[.slice Ad0 d.points.length cd0, .slice Ad1 d.segs.length cd1] 32).below (Joins.below_alloc1 _ (.cells #[.string s.name, .int .i64 s.length, .int .i64 s.draught, .int .i64 s.line, .int .i64 s.tugs, .bool s.slow] 46)))
  rw [World.size_alloc] at Kd
  have Ks := Lib.hid (Blk.new ((w.alloc (.cells #[.int .i64 f.mean, .slice Af0 f.parts.length cf0, .slice Af1 f.surges.length cf1] 28)).alloc (.cells #[.slice Ad0 d.points.length cd0, .slice Ad1 d.segs.length cd1] 32)) #[.string s.name, .int .i64 s.length, .int .i64 s.draught, .int .i64 s.line, .int .i64 s.tugs, .bool s.slow] 46)
  rw [World.size_alloc, World.size_alloc] at Ks
  have HW0 := Lib.hid hW0
  rw [← hW0] at B Kf Kd Ks
  clear hW0
  have hdl := Rd.out.2.1
  have hrl := Rr.out.1
  go_enter Try.func10, Try.ntmps10
  have vf0 : W0.cell? ⟨w.heap.size, 0, none⟩ = some (.int .i64 f.mean) := Kf.out.cell 0
  have vf1 : W0.cell? ⟨w.heap.size, 1, none⟩ = some (.slice Af0 f.parts.length cf0) := Kf.out.cell 1
  have vf2 : W0.cell? ⟨w.heap.size, 2, none⟩ = some (.slice Af1 f.surges.length cf1) := Kf.out.cell 2
  have vd0 : W0.cell? ⟨w.heap.size + 1, 0, none⟩ = some (.slice Ad0 d.points.length cd0) := Kd.out.cell 0
  have vd1 : W0.cell? ⟨w.heap.size + 1, 1, none⟩ = some (.slice Ad1 d.segs.length cd1) := Kd.out.cell 1
  have vs0 : W0.cell? ⟨w.heap.size + 2, 0, none⟩ = some (.string s.name) := Ks.out.cell 0
  have vs1 : W0.cell? ⟨w.heap.size + 2, 1, none⟩ = some (.int .i64 s.length) := Ks.out.cell 1
  have vs2 : W0.cell? ⟨w.heap.size + 2, 2, none⟩ = some (.int .i64 s.draught) := Ks.out.cell 2
  have vs3 : W0.cell? ⟨w.heap.size + 2, 3, none⟩ = some (.int .i64 s.line) := Ks.out.cell 3
  have vs4 : W0.cell? ⟨w.heap.size + 2, 4, none⟩ = some (.int .i64 s.tugs) := Ks.out.cell 4
  have vs5 : W0.cell? ⟨w.heap.size + 2, 5, none⟩ = some (.bool s.slow) := Ks.out.cell 5
  go_wp2_with fail
  rw [← HW0.out]
  clear vf0 vf1 vf2 vd0 vd1 vs0 vs1 vs2 vs3 vs4 vs5
  refine (legsOf_any _ _ f _ _ d s fr _ r _ (Rf.out.below B.out) (Rd.out.below B.out) (Rr.out.below B.out) Nd.out Ns.out).mono ?_
  rintro e w1 ⟨vl, rows, rfl, hrows, hrl2, hb1⟩
  have B1 := Lib.hid (B.out.trans (hb1.mono B.out.size))
  have Kf_1 := Lib.hid (Kf.out.below hb1)
  have Kd_1 := Lib.hid (Kd.out.below hb1)
  have Ks_1 := Lib.hid (Ks.out.below hb1)
  have RL := Lib.hid hrl2
  have HRO := Lib.hid hrows
  obtain ⟨Al, cl, rfl⟩ := SlOf.form hrl2.1
  clear hrl2 hrows
  clear hb1
  go_wp2_with fail
  refine (sailLegs_any _ rows st 2880 _ RL.out (legs_wok' HRO.out) (legs_mins HRO.out)).mono ?_
  rintro e w2 ⟨x, hx, vo, rfl, hoo, hb2⟩
  have B2 := Lib.hid (B1.out.trans (hb2.mono B1.out.size))
  have Kf_2 := Lib.hid (Kf_1.out.below hb2)
  have Kd_2 := Lib.hid (Kd_1.out.below hb2)
  have Ks_2 := Lib.hid (Ks_1.out.below hb2)
  have E := Lib.hid (res_first HRO.out hx)
  have OO := Lib.hid (own_lo (base' := w.heap.size) hoo B1.out.size)
  obtain ⟨Ao, co, rfl⟩ := own_form hoo
  clear hoo hx
  clear hb2
  go_wp2
  refine bodyPost_ret (v := .tuple #[.slice Ao (x.getD []).length co, .bool x.isSome]) (by simp [results, Try.results10, go_sem, *]) rfl ⟨_, by rw [E.out], by rw [E.out]; exact OO.out, B2.out⟩
end Go.Proofs.Ytooeikimoheecaa
