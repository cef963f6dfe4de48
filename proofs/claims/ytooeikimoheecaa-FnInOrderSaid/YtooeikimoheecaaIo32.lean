
/- What InOrderLaw rests on, part 32: contracts and mathematics. -/
import Derived.Test.YtooeikimoheecaaIo29
import Derived.Deep.RegionHeld3
namespace Go.Proofs.Ytooeikimoheecaa
open Go.RowKit
set_option maxRecDepth 100000
def OnwardAt (d : ChartD) (tgt : Int) (f : Nat) : Prop :=
  ∀ (pts rt : List Int) (v0 v1 pv rv : Value) (w0 w : World), RdChart w0 v0 v1 d → Below w0.heap.size w0 w → OwnInt w w0.heap.size pv pts → OwnInt w w0.heap.size rv rt →
    ApartV pv rv → (rt = [] → rv = .slice none 0 0) → GoodP d.points.length pts → d.points.length ≤ pts.length + f → rt.length + f ≤ 10 → f ≤ 8 →
    Calls Try.prog 89 #[.agg #[v0, v1], pv, rv, .int .i64 tgt] w (Onw d tgt f pts rt pv rv w0.heap.size w)
set_option maxHeartbeats 16000000 in
theorem onwardStep (d : ChartD) (hd : chartB d = true) (tgt : Int) (f0 : Nat) (ih0 : ∀ f, f0 = f + 1 → OnwardAt d tgt f) : OnwardAt d tgt f0 := by
  intro pts rt v0 v1 pv rv w0 w hR hB hp hr hap hnil hG hf hrl hf8
  have HIH := Lib.hid ih0
  have HR := Lib.hid hR
  obtain ⟨h0, h1⟩ := hR
  obtain ⟨A0, c0, rfl⟩ := h0.at
  obtain ⟨A1, c1, rfl⟩ := h1.at
  have hsg := (chartB_true hd).2.1
  have hpn := (chartB_true hd).1
  have hpl := hG.len
  have HD := Lib.hid hd
  have HG := Lib.hid hG
  have HF := Lib.hid hf
  have HRL := Lib.hid hrl
  have hrl10 : rt.length ≤ 10 := by omega
  have hpl8 : pts.length ≤ 8 := by omega
  have HNIL := Lib.hid hnil
  obtain ⟨P, cp, rfl⟩ := own_form hp
  obtain ⟨R, cr, rfl⟩ := own_form hr
  have HP0 := Lib.hid hp
  have HR0 := Lib.hid hr
  obtain ⟨w1, hw1⟩ : ∃ w1, w1 = w.alloc (.cells #[.slice A0 d.points.length c0, .slice A1 d.segs.length c1] 32) := ⟨_, rfl⟩
  have hs1 : w1.heap.size = w.heap.size + 1 := by rw [hw1]; simp
  have BX := Lib.hid (show Blk w1 w.heap.size #[.slice A0 d.points.length c0, .slice A1 d.segs.length c1] 32 by rw [hw1]; exact Blk.new w _ _)
  have BW := Lib.hid (show Below w.heap.size w w1 by rw [hw1]; exact Joins.below_alloc1 _ _)
  have HB1 := Lib.hid (hB.trans (BW.out.mono hB.size))
  have HNX := Lib.hid (show ¬ Ex2 (.slice P pts.length cp) (.slice R rt.length cr) w.heap.size from fun e => by
    rcases e with e | e
    · have := own_range hp _ e; omega
    · have := own_range hr _ e; omega)
  have OST := Lib.hid (OnP.start (own_below hp BW.out) (own_below hr BW.out) hap (Nat.le_trans hB.size BW.out.size))
  have hb0 := hB.size
  clear h0 h1 hB hd hf hG hrl hnil hap
  -- the last point
  obtain ⟨k0, hk0⟩ : ∃ k0, pts.length = k0 + 1 := ⟨pts.length - 1, by have := HG.out.1; have : 0 < pts.length := List.length_pos_iff.2 this; omega⟩
  obtain ⟨z, hz⟩ : ∃ z, pts[k0]? = some z := ⟨_, List.getElem?_eq_getElem (by omega)⟩
  have hzl : pts.getLast? = some z := by rw [List.getLast?_eq_getElem?, show pts.length - 1 = k0 by omega]; exact hz
  have HZ := Lib.hid (show pts.getLast?.getD 0 = z by rw [hzl]; rfl)
  have hsp := own_sl intLen (own_below hp BW.out) (by omega)
  rcases hsp.2 with ⟨he, _⟩ | ⟨g, oo, cc, e, hpos, hcap, hc⟩
  · rw [he] at hk0; simp at hk0
  injection e with e1 _ e3
  subst e1 e3
  have y0 := SlInt.cells hc k0 z hz
  have hkl : k0 < pts.length := by omega
  have hsub : IntKind.i64.wrap ((pts.length : Int) - 1) = (k0 : Int) := by rw [IntKind.wrap_i64]; omega
  have HK0 := Lib.hid hk0
  have HW1 := Lib.hid hw1
  clear hz hzl hc hsp hk0 hw1 hp hr
  by_cases hzt : z = tgt
  · have E := Lib.hid (walkF_here (d := d) (f := f0) (rt := rt) (show pts.getLast?.getD 0 = tgt by rw [HZ.out]; exact hzt))
    have hzb : (z == tgt) = true := by simpa using hzt
    clear hzt
    go_enter Try.func89, Try.ntmps89
    go_wp2_with (rw [← HW1.out])
    refine (cloneInt _ rt w1 (own_sl intLen (own_below HR0.out BW.out) (by omega))).mono ?_
    rintro e w2 ⟨u, rfl, hu, hb2⟩
    have hu' := own_lo hu (base' := w.heap.size) (by omega)
    have HL := Lib.hid (LLIn.one (base := w.heap.size) (top := w2.heap.size + 1) hu' (Nat.le_trans (by omega) hb2.size) (own_range hu') (by omega))
    have hbw := Lib.hid ((BW.out.trans (hb2.mono BW.out.size)).alloc (Nat.le_trans BW.out.size hb2.size) (.cells #[u] 36))
    obtain ⟨U, cu, rfl⟩ := own_form hu
    clear hu hu' hb2
    go_wp2
    go_ret
    refine ⟨_, rfl, ?_, own_below HP0.out hbw.out, own_below HR0.out hbw.out, KeepX.below hbw.out⟩
    rw [E.out, World.size_alloc]
    exact HL.out
  · have E := Lib.hid (walkF_up (d := d) (f := f0) (rt := rt) (show ¬ pts.getLast?.getD 0 = tgt by rw [HZ.out]; exact hzt))
    have hzb : (z == tgt) = false := by simpa using hzt
    clear hzt
    obtain ⟨i0, hin, hi0, his, hi2⟩ := info1_int
    have HI := Lib.hid hin
    clear hin
    have z0 := BX.out.cell 0
    have z1 := BX.out.cell 1
    simp at z0 z1
    go_enter Try.func89, Try.ntmps89
    go_wp2_with (rw [← HW1.out])
    clear z0 z1 HW1 y0
    go_loopw [9, 26] (fun q i wr => ∃ (k : Nat), k ≤ d.segs.length ∧ i = .int .i64 k ∧ Hid (OnP w1 w0.heap.size wr.heap.size (.slice (some ⟨g, oo, none⟩) pts.length cp) (.slice R rt.length cr) q pts rt (upW d tgt f0 pts rt k) wr)) (fun _ i _ => d.segs.length - (intOf i).toNat)
    case atStart => exact ⟨0, Nat.zero_le _, rfl, OST⟩
    case round =>
      clear OST
      obtain ⟨k, hk, rfl, hO⟩ := hrel
      obtain ⟨Q, cq, hQ, _⟩ := hO.out.ll.form
      subst hQ
      have z0 := (hO.out.box BX.out HNX.out).cell 0
      have z1 := (hO.out.box BX.out HNX.out).cell 1
      simp at z0 z1
      by_cases hlt : k < d.segs.length
      rotate_left
      · obtain rfl : k = d.segs.length := by omega
        have HL := Lib.hid hO.out.ll
        have hkp := Lib.hid ((KeepX.below BW.out).trans hO.out.keep)
        go_wp2
        refine bodyPost_ret (v := .slice Q (upW d tgt f0 pts rt d.segs.length).length cq) (by simp [results, Try.results89, go_sem, *]) rfl ⟨_, rfl, by rw [E.out]; exact HL.out.lo (by omega), hO.out.p, hO.out.r, hkp.out⟩
      · have HUP := Lib.hid (upW_next d tgt f0 pts rt k)
        have HAL := Lib.hid (upW_len hsg tgt f0 pts rt (show k ≤ 10 by omega))
        obtain ⟨acc, hacc⟩ : ∃ acc, upW d tgt f0 pts rt k = acc := ⟨_, rfl⟩
        rw [hacc] at hO HUP HAL ⊢
        clear hacc
        obtain ⟨t, ht⟩ : ∃ t, nextPt d pts (k : Int) = t := ⟨_, rfl⟩
        have HT := Lib.hid ht
        clear ht
        go_wp2_with fail
        refine (implNext _ _ d _ pts (k : Int) _ (HR.out.below (hO.out.toBelow HB1.out)) (own_sl intLen hO.out.p (by omega)) HG.out.1).mono ?_
        rw [HT.out]
        rintro e wa ⟨rfl, hb3⟩
        have OA := Lib.hid (hO.out.below hb3).raise
        clear hb3 z0 z1
        by_cases hneg : t < 0
        · have hnb : decide (0 ≤ t) = false := decide_eq_false (by omega)
          have EU := Lib.hid (show upW d tgt f0 pts rt (k + 1) = acc by rw [HUP.out, stepW_bad (by rw [HT.out]; exact hneg), List.append_nil])
          go_wp2
          go_roundw
          case rel => exact ⟨k + 1, by omega, by go_num, by rw [EU.out]; exact OA⟩
          case measure => simp [intOf]; omega
        · have hnb : 0 ≤ t := by omega
          have HG2 := Lib.hid (show GoodP d.points.length (pts ++ [t]) by rw [← HT.out]; exact HG.out.next HD.out (by rw [HT.out]; omega))
          obtain ⟨f, rfl⟩ : ∃ f, f0 = f + 1 := ⟨f0 - 1, by have h1 := HG2.out.len; have h2 := HF.out; simp at h1; omega⟩
          have ih := HIH.out f rfl
          have HF2 := Lib.hid (show d.points.length ≤ (pts ++ [t]).length + f by have := HF.out; simp; omega)
          have EU := Lib.hid (show upW d tgt (f + 1) pts rt (k + 1) = acc ++ walkF d tgt f (pts ++ [t]) (rt ++ [(k : Int)]) by rw [HUP.out, stepW_good (by rw [HT.out]; omega), HT.out])
          have HLN := Lib.hid (show acc.length + (walkF d tgt f (pts ++ [t]) (rt ++ [(k : Int)])).length ≤ 1000000000 by
            have h1 := HAL.out
            have h2 := walkF_len hsg tgt f (pts ++ [t]) (rt ++ [(k : Int)])
            have h3 : 10 ^ (f + 1) ≤ 10 ^ 8 := Nat.pow_le_pow_right (by omega) (by omega)
            have h4 : 10 ^ f ≤ 10 ^ 8 := Nat.pow_le_pow_right (by omega) (by omega)
            omega)
          clear hO HUP HIH HAL
          have OD := Lib.hid OA.out.drew
          go_wp2
          refine wp_region_held_drew (S := (fun w' => w'.cell? ⟨w.heap.size, 0, none⟩ = some (.slice A0 d.points.length c0) ∧ w'.cell? ⟨w.heap.size, 1, none⟩ = some (.slice A1 d.segs.length c1))) (by kernel_rfl) ?_ (fun hHeld => ?_)
          · exact ⟨(OD.out.box BX.out HNX.out).cell 0, (OD.out.box BX.out HNX.out).cell 1⟩
          generalize wa.drew = wd at OD hHeld ⊢
          refine wpAnyH_take (i := 0) (v := ?_) (by simp only [List.getElem?_toArray, List.getElem?_cons_zero]; rfl) (by kernel_rfl) (by kernel_rfl) (by kernel_rfl) (by exact fun _ _ _ h => h) (Or.inl ⟨by rfl, ?_⟩) (by assumption) ?_; rotate_left; focus (intro w hSw; (try dsimp only at hSw); first | (go_simp; done) | (go_simp; with_reducible rfl))
          try go_frame
          refine wpAnyH_take (i := 1) (v := ?_) (by simp only [List.getElem?_toArray, List.getElem?_cons_succ, List.getElem?_cons_zero]; rfl) (by kernel_rfl) (by kernel_rfl) (by kernel_rfl) (by exact fun _ _ _ h => h) (Or.inl ⟨by rfl, ?_⟩) (by assumption) ?_; rotate_left; focus (intro w hSw; (try dsimp only at hSw); first | (go_simp; done) | (go_simp; with_reducible rfl))
          try go_frame
          refine wpAnyH_take (i := 2) (v := ?_) (by simp only [List.getElem?_toArray, List.getElem?_cons_succ, List.getElem?_cons_zero]; rfl) (by kernel_rfl) (by kernel_rfl) (by kernel_rfl) (by exact fun _ _ _ h => h) (Or.inl ⟨by rfl, ?_⟩) (by assumption) ?_; rotate_left; focus (intro w hSw; (try dsimp only at hSw); first | (go_simp; done) | (go_simp; with_reducible rfl))
          try go_frame
          refine wpAnyH_take (i := 3) (v := ?_) (by simp only [List.getElem?_toArray, List.getElem?_cons_succ, List.getElem?_cons_zero]; rfl) (by kernel_rfl) (by kernel_rfl) (by kernel_rfl) (by exact fun _ _ _ h => h) (Or.inl ⟨by rfl, ?_⟩) (by assumption) ?_; rotate_left; focus (intro w hSw; (try dsimp only at hSw); first | (go_simp; done) | (go_simp; with_reducible rfl))
          try go_frame
          refine wpAnyH_take (i := 6) (v := ?_) (by simp only [List.getElem?_toArray, List.getElem?_cons_succ, List.getElem?_cons_zero]; rfl) (by kernel_rfl) (by kernel_rfl) (by kernel_rfl) (by exact fun _ _ _ h => h) (Or.inl ⟨by rfl, ?_⟩) (by assumption) ?_; rotate_left; focus (intro w hSw; (try dsimp only at hSw); first | (go_simp; done) | (go_simp; with_reducible rfl))
          try go_frame
          refine wpAnyH_take (i := 7) (v := ?_) (by simp only [List.getElem?_toArray, List.getElem?_cons_succ, List.getElem?_cons_zero]; rfl) (by kernel_rfl) (by kernel_rfl) (by kernel_rfl) (by exact fun _ _ _ h => h) (Or.inl ⟨by rfl, ?_⟩) (by assumption) ?_; rotate_left; focus (intro w hSw; (try dsimp only at hSw); first | (go_simp; done) | (go_simp; with_reducible rfl))
          try go_frame
          refine wpAnyH_take (i := 10) (v := ?_) (by simp only [List.getElem?_toArray, List.getElem?_cons_succ, List.getElem?_cons_zero]; rfl) (by kernel_rfl) (by kernel_rfl) (by kernel_rfl) (by exact fun _ _ _ h => h) (Or.inl ⟨by rfl, ?_⟩) (by assumption) ?_; rotate_left; focus (intro w hSw; (try dsimp only at hSw); first | (go_simp; done) | (go_simp; with_reducible rfl))
          try go_frame
          refine wpAnyH_ready (rs := [4, 8]) (by kernel_rfl) (by simp) ?_
          refine AllReadyH.cons rfl (fun K hK => ?_) (AllReadyH.cons rfl (fun K hK => ?_) AllReadyH.nil)
          · -- t39 first
            rw [if_pos (by rfl)]
            go_simp
            have Ba4 := Lib.hid (Blk.new wd #[.int .i64 t] 3)
            have Oa4 := Lib.hid (OD.out.alloc (.cells #[.int .i64 t] 3))
            have hza4 : wa.heap.size ≤ wd.heap.size := OD.out.sz
            refine hK.out _ _ ?_ (fun hHeld => ?_)
            · exact ⟨(Oa4.out.box BX.out HNX.out).cell 0, (Oa4.out.box BX.out HNX.out).cell 1⟩
            clear hK K
            generalize (wd.alloc (.cells #[.int .i64 t] 3)) = a4 at Ba4 Oa4 hHeld ⊢
            try go_frame
            refine wpAnyH_ready (rs := [5, 8]) (by kernel_rfl) (by simp) ?_
            refine AllReadyH.cons rfl (fun K hK => ?_) (AllReadyH.cons rfl (fun K hK => ?_) AllReadyH.nil)
            · -- t40, then t43
              refine step_append_keeps _ rfl (.tmp 37) (.tmp 39) 36 rfl w0.heap.size 3 i0 _ 1 8 Try.underlying36 HI.out hi0 (by assumption) hi2 rfl (by omega) (.slice (some ⟨g, oo, none⟩) pts.length cp) pts.length (pts.flatMap intCells) rfl Oa4.out.p ⟨wd.heap.size, 0, none⟩ 1 1 (intCells t) rfl rfl (World.news_of_block Ba4.out) (int_one _) (by omega) (by unfold maxLen; omega) (by omega) (Nat.le_trans Oa4.out.b1 (Nat.le_trans Oa4.out.tb Oa4.out.sz)) ?_
              intro ga5 capa5 a5 hown hgr hor hlt hkeep
              have Oa5 := Lib.hid (Oa4.out.appP hgr hkeep)
              have Gpa5 := Lib.hid (Gr.mk' (top := wa.heap.size) hown hor Oa4.out.sz hlt)
              clear hown hgr hor hlt hkeep
              refine hK.out _ _ ?_ (fun hHeld => ?_)
              · exact ⟨(Oa5.out.box BX.out HNX.out).cell 0, (Oa5.out.box BX.out HNX.out).cell 1⟩
              clear hK K
              try go_frame
              refine wpAnyH_ready (rs := [8]) (by kernel_rfl) (by simp) ?_
              refine AllReadyH.cons rfl (fun K hK => ?_) AllReadyH.nil
              rw [if_pos (by rfl)]
              go_simp
              have B43a8 := Lib.hid (Blk.new a5 #[.int .i64 (k : Int)] 3)
              have Oa8 := Lib.hid (Oa5.out.alloc (.cells #[.int .i64 (k : Int)] 3))
              have Gpa8 := Lib.hid (Gpa5.out.alloc (.cells #[.int .i64 (k : Int)] 3))
              have hza8 : wa.heap.size ≤ a5.heap.size := Oa5.out.sz
              refine hK.out _ _ ?_ (fun hHeld => ?_)
              · exact ⟨(Oa8.out.box BX.out HNX.out).cell 0, (Oa8.out.box BX.out HNX.out).cell 1⟩
              clear hK K
              generalize (a5.alloc (.cells #[.int .i64 (k : Int)] 3)) = a8 at B43a8 Oa8 Gpa8 hHeld ⊢
              try go_frame
              refine wpAnyH_ready (rs := [9]) (by kernel_rfl) (by simp) ?_
              refine AllReadyH.cons rfl (fun K hK => ?_) AllReadyH.nil
              refine step_append_keeps _ rfl (.tmp 41) (.tmp 43) 36 rfl w0.heap.size 3 i0 _ 1 8 Try.underlying36 HI.out hi0 (by assumption) hi2 rfl (by omega) (.slice R rt.length cr) rt.length (rt.flatMap intCells) rfl Oa8.out.r ⟨a5.heap.size, 0, none⟩ 1 1 (intCells (k : Int)) rfl rfl (World.news_of_block B43a8.out) (int_one _) (by omega) (by unfold maxLen; omega) (by omega) (Nat.le_trans Oa8.out.b1 (Nat.le_trans Oa8.out.tb Oa8.out.sz)) ?_
              intro gy9 capy9 y9 hown hgr hor hlt hkeep
              have Oy9 := Lib.hid (Oa8.out.appR hgr hkeep)
              have Gry9 := Lib.hid (Gr.mk' (top := wa.heap.size) hown hor Oa8.out.sz hlt)
              have AP := Lib.hid (apart_last (n := rt.length + 1) (cap := capy9) Gpa8.out Oa8.out hor)
              have Gpy9 := Lib.hid (Gpa8.out.appR Oa8.out hgr)
              clear hown hgr hor hlt hkeep
              refine hK.out _ _ ?_ (fun hHeld => ?_)
              · exact ⟨(Oy9.out.box BX.out HNX.out).cell 0, (Oy9.out.box BX.out HNX.out).cell 1⟩
              clear hK K
              try go_frame
              refine wpAnyH_ready (rs := [11]) (by kernel_rfl) (by simp) ?_
              refine AllReadyH.cons rfl (fun K hK => ?_) AllReadyH.nil
              rw [if_pos (by rfl)]
              go_simp
              go_at_call 89
              refine (ih (pts ++ [t]) (rt ++ [(k : Int)]) _ _ _ _ w0 _ HR.out (Oy9.out.toBelow HB1.out) Gpy9.out.own Gry9.out.own AP.out (fun e => by simp at e) HG2.out HF2.out (by have := HRL.out; simp; omega) (by omega)).mono ?_
              rintro e x10 ⟨u, rfl, hll, hp, hr, hk⟩
              have O10 := Lib.hid (Oy9.out.after Gpy9.out Gry9.out hk hp hr)
              have HLL := Lib.hid hll
              have hsx := Oy9.out.sz
              have htb := Oy9.out.tb
              clear hll hp hr hk
              obtain ⟨U, cu, hU⟩ : ∃ U cu, u = .slice U (walkF d tgt f (pts ++ [t]) (rt ++ [(k : Int)])).length cu := by obtain ⟨U, cu, e, _⟩ := HLL.out.form; exact ⟨U, cu, e⟩
              subst hU
              go_simp
              refine hK.out _ _ ?_ (fun hHeld => ?_)
              · exact ⟨(O10.out.box BX.out HNX.out).cell 0, (O10.out.box BX.out HNX.out).cell 1⟩
              clear hK K
              try go_frame
              refine wpAnyH_ready (rs := [12]) (by kernel_rfl) (by simp) ?_
              refine AllReadyH.cons rfl (fun K hK => ?_) AllReadyH.nil
              refine step_append_LL _ rfl (.tmp 35) (.tmp 46) rfl O10.out.ll HLL.out hsx (by omega) O10.out.sz rfl rfl (by have := HLN.out; omega) (Nat.le_trans O10.out.tb O10.out.sz) ?_
              intro A9 c9 x12 hc9 hll9 hk9 _
              have hk9 := hk9.weak (ex' := fun i => w1.heap.size ≤ i) (fun i _ e => (O10.out.ll.range i e).1)
              have O12 := Lib.hid (O10.out.appLL hk9 hll9)
              clear hll9 hk9
              refine hK.out _ _ ?_ (fun hHeld => ?_)
              · exact ⟨(O12.out.box BX.out HNX.out).cell 0, (O12.out.box BX.out HNX.out).cell 1⟩
              clear hK K
              try go_frame
              refine wpAnyH_take (i := 13) (v := ?_) (by simp only [List.getElem?_toArray, List.getElem?_cons_succ, List.getElem?_cons_zero]; rfl) (by kernel_rfl) (by kernel_rfl) (by kernel_rfl) (by exact fun _ _ _ h => h) (Or.inl ⟨by rfl, ?_⟩) (by assumption) ?_; rotate_left; focus (intro w hSw; (try dsimp only at hSw); first | (go_simp; done) | (go_simp; with_reducible rfl))
              try go_frame
              refine wpAnyH_done (by kernel_rfl) ?_ _
              clear hHeld
              go_wp2
              go_roundw
              case rel => exact ⟨k + 1, by omega, by go_num, by rw [EU.out, ← List.length_append]; exact O12⟩
              case measure => simp [intOf]; omega
            · -- t43, then t40
              rw [if_pos (by rfl)]
              go_simp
              have B43a8 := Lib.hid (Blk.new a4 #[.int .i64 (k : Int)] 3)
              have Oa8 := Lib.hid (Oa4.out.alloc (.cells #[.int .i64 (k : Int)] 3))
              have B39a8 := Lib.hid (Ba4.out.below (Joins.below_alloc1 a4 (.cells #[.int .i64 (k : Int)] 3)))
              have hza8 : wa.heap.size ≤ a4.heap.size := Oa4.out.sz
              refine hK.out _ _ ?_ (fun hHeld => ?_)
              · exact ⟨(Oa8.out.box BX.out HNX.out).cell 0, (Oa8.out.box BX.out HNX.out).cell 1⟩
              clear hK K
              generalize (a4.alloc (.cells #[.int .i64 (k : Int)] 3)) = a8 at B43a8 Oa8 B39a8 hHeld ⊢
              try go_frame
              refine wpAnyH_ready (rs := [5]) (by kernel_rfl) (by simp) ?_
              refine AllReadyH.cons rfl (fun K hK => ?_) AllReadyH.nil
              refine step_append_keeps _ rfl (.tmp 37) (.tmp 39) 36 rfl w0.heap.size 3 i0 _ 1 8 Try.underlying36 HI.out hi0 (by assumption) hi2 rfl (by omega) (.slice (some ⟨g, oo, none⟩) pts.length cp) pts.length (pts.flatMap intCells) rfl Oa8.out.p ⟨wd.heap.size, 0, none⟩ 1 1 (intCells t) rfl rfl (World.news_of_block B39a8.out) (int_one _) (by omega) (by unfold maxLen; omega) (by omega) (Nat.le_trans Oa8.out.b1 (Nat.le_trans Oa8.out.tb Oa8.out.sz)) ?_
              intro ga5 capa5 a5 hown hgr hor hlt hkeep
              have Oa5 := Lib.hid (Oa8.out.appP hgr hkeep)
              have Gpa5 := Lib.hid (Gr.mk' (top := wa.heap.size) hown hor Oa8.out.sz hlt)
              have B43b := Lib.hid (blk_keep B43a8.out hgr Oa8.out.pb (Nat.le_trans Oa8.out.tb hza8))
              clear hown hgr hor hlt hkeep
              refine hK.out _ _ ?_ (fun hHeld => ?_)
              · exact ⟨(Oa5.out.box BX.out HNX.out).cell 0, (Oa5.out.box BX.out HNX.out).cell 1⟩
              clear hK K
              try go_frame
              refine wpAnyH_ready (rs := [9]) (by kernel_rfl) (by simp) ?_
              refine AllReadyH.cons rfl (fun K hK => ?_) AllReadyH.nil
              refine step_append_keeps _ rfl (.tmp 41) (.tmp 43) 36 rfl w0.heap.size 3 i0 _ 1 8 Try.underlying36 HI.out hi0 (by assumption) hi2 rfl (by omega) (.slice R rt.length cr) rt.length (rt.flatMap intCells) rfl Oa5.out.r ⟨a4.heap.size, 0, none⟩ 1 1 (intCells (k : Int)) rfl rfl (World.news_of_block B43b.out) (int_one _) (by omega) (by unfold maxLen; omega) (by omega) (Nat.le_trans Oa5.out.b1 (Nat.le_trans Oa5.out.tb Oa5.out.sz)) ?_
              intro gy9 capy9 y9 hown hgr hor hlt hkeep
              have Oy9 := Lib.hid (Oa5.out.appR hgr hkeep)
              have Gry9 := Lib.hid (Gr.mk' (top := wa.heap.size) hown hor Oa5.out.sz hlt)
              have AP := Lib.hid (apart_last (n := rt.length + 1) (cap := capy9) Gpa5.out Oa5.out hor)
              have Gpy9 := Lib.hid (Gpa5.out.appR Oa5.out hgr)
              clear hown hgr hor hlt hkeep
              refine hK.out _ _ ?_ (fun hHeld => ?_)
              · exact ⟨(Oy9.out.box BX.out HNX.out).cell 0, (Oy9.out.box BX.out HNX.out).cell 1⟩
              clear hK K
              try go_frame
              refine wpAnyH_ready (rs := [11]) (by kernel_rfl) (by simp) ?_
              refine AllReadyH.cons rfl (fun K hK => ?_) AllReadyH.nil
              rw [if_pos (by rfl)]
              go_simp
              go_at_call 89
              refine (ih (pts ++ [t]) (rt ++ [(k : Int)]) _ _ _ _ w0 _ HR.out (Oy9.out.toBelow HB1.out) Gpy9.out.own Gry9.out.own AP.out (fun e => by simp at e) HG2.out HF2.out (by have := HRL.out; simp; omega) (by omega)).mono ?_
              rintro e x10 ⟨u, rfl, hll, hp, hr, hk⟩
              have O10 := Lib.hid (Oy9.out.after Gpy9.out Gry9.out hk hp hr)
              have HLL := Lib.hid hll
              have hsx := Oy9.out.sz
              have htb := Oy9.out.tb
              clear hll hp hr hk
              obtain ⟨U, cu, hU⟩ : ∃ U cu, u = .slice U (walkF d tgt f (pts ++ [t]) (rt ++ [(k : Int)])).length cu := by obtain ⟨U, cu, e, _⟩ := HLL.out.form; exact ⟨U, cu, e⟩
              subst hU
              go_simp
              refine hK.out _ _ ?_ (fun hHeld => ?_)
              · exact ⟨(O10.out.box BX.out HNX.out).cell 0, (O10.out.box BX.out HNX.out).cell 1⟩
              clear hK K
              try go_frame
              refine wpAnyH_ready (rs := [12]) (by kernel_rfl) (by simp) ?_
              refine AllReadyH.cons rfl (fun K hK => ?_) AllReadyH.nil
              refine step_append_LL _ rfl (.tmp 35) (.tmp 46) rfl O10.out.ll HLL.out hsx (by omega) O10.out.sz rfl rfl (by have := HLN.out; omega) (Nat.le_trans O10.out.tb O10.out.sz) ?_
              intro A9 c9 x12 hc9 hll9 hk9 _
              have hk9 := hk9.weak (ex' := fun i => w1.heap.size ≤ i) (fun i _ e => (O10.out.ll.range i e).1)
              have O12 := Lib.hid (O10.out.appLL hk9 hll9)
              clear hll9 hk9
              refine hK.out _ _ ?_ (fun hHeld => ?_)
              · exact ⟨(O12.out.box BX.out HNX.out).cell 0, (O12.out.box BX.out HNX.out).cell 1⟩
              clear hK K
              try go_frame
              refine wpAnyH_take (i := 13) (v := ?_) (by simp only [List.getElem?_toArray, List.getElem?_cons_succ, List.getElem?_cons_zero]; rfl) (by kernel_rfl) (by kernel_rfl) (by kernel_rfl) (by exact fun _ _ _ h => h) (Or.inl ⟨by rfl, ?_⟩) (by assumption) ?_; rotate_left; focus (intro w hSw; (try dsimp only at hSw); first | (go_simp; done) | (go_simp; with_reducible rfl))
              try go_frame
              refine wpAnyH_done (by kernel_rfl) ?_ _
              clear hHeld
              go_wp2
              go_roundw
              case rel => exact ⟨k + 1, by omega, by go_num, by rw [EU.out, ← List.length_append]; exact O12⟩
              case measure => simp [intOf]; omega
          · -- t43 first
            rw [if_pos (by rfl)]
            go_simp
            have B43a8 := Lib.hid (Blk.new wd #[.int .i64 (k : Int)] 3)
            have Oa8 := Lib.hid (OD.out.alloc (.cells #[.int .i64 (k : Int)] 3))
            have hza8 : wa.heap.size ≤ wd.heap.size := OD.out.sz
            refine hK.out _ _ ?_ (fun hHeld => ?_)
            · exact ⟨(Oa8.out.box BX.out HNX.out).cell 0, (Oa8.out.box BX.out HNX.out).cell 1⟩
            clear hK K
            generalize (wd.alloc (.cells #[.int .i64 (k : Int)] 3)) = a8 at B43a8 Oa8 hHeld ⊢
            try go_frame
            refine wpAnyH_ready (rs := [4]) (by kernel_rfl) (by simp) ?_
            refine AllReadyH.cons rfl (fun K hK => ?_) AllReadyH.nil
            rw [if_pos (by rfl)]
            go_simp
            have Ba4 := Lib.hid (Blk.new a8 #[.int .i64 t] 3)
            have Oa4 := Lib.hid (Oa8.out.alloc (.cells #[.int .i64 t] 3))
            have B43ca4 := Lib.hid (B43a8.out.below (Joins.below_alloc1 a8 (.cells #[.int .i64 t] 3)))
            have hza4 : wa.heap.size ≤ a8.heap.size := Oa8.out.sz
            refine hK.out _ _ ?_ (fun hHeld => ?_)
            · exact ⟨(Oa4.out.box BX.out HNX.out).cell 0, (Oa4.out.box BX.out HNX.out).cell 1⟩
            clear hK K
            generalize (a8.alloc (.cells #[.int .i64 t] 3)) = a4 at Ba4 Oa4 B43ca4 hHeld ⊢
            try go_frame
            refine wpAnyH_ready (rs := [5]) (by kernel_rfl) (by simp) ?_
            refine AllReadyH.cons rfl (fun K hK => ?_) AllReadyH.nil
            refine step_append_keeps _ rfl (.tmp 37) (.tmp 39) 36 rfl w0.heap.size 3 i0 _ 1 8 Try.underlying36 HI.out hi0 (by assumption) hi2 rfl (by omega) (.slice (some ⟨g, oo, none⟩) pts.length cp) pts.length (pts.flatMap intCells) rfl Oa4.out.p ⟨a8.heap.size, 0, none⟩ 1 1 (intCells t) rfl rfl (World.news_of_block Ba4.out) (int_one _) (by omega) (by unfold maxLen; omega) (by omega) (Nat.le_trans Oa4.out.b1 (Nat.le_trans Oa4.out.tb Oa4.out.sz)) ?_
            intro ga5 capa5 a5 hown hgr hor hlt hkeep
            have Oa5 := Lib.hid (Oa4.out.appP hgr hkeep)
            have Gpa5 := Lib.hid (Gr.mk' (top := wa.heap.size) hown hor Oa4.out.sz hlt)
            have B43b := Lib.hid (blk_keep B43ca4.out hgr Oa4.out.pb (Nat.le_trans Oa8.out.tb hza8))
            clear hown hgr hor hlt hkeep
            refine hK.out _ _ ?_ (fun hHeld => ?_)
            · exact ⟨(Oa5.out.box BX.out HNX.out).cell 0, (Oa5.out.box BX.out HNX.out).cell 1⟩
            clear hK K
            try go_frame
            refine wpAnyH_ready (rs := [9]) (by kernel_rfl) (by simp) ?_
            refine AllReadyH.cons rfl (fun K hK => ?_) AllReadyH.nil
            refine step_append_keeps _ rfl (.tmp 41) (.tmp 43) 36 rfl w0.heap.size 3 i0 _ 1 8 Try.underlying36 HI.out hi0 (by assumption) hi2 rfl (by omega) (.slice R rt.length cr) rt.length (rt.flatMap intCells) rfl Oa5.out.r ⟨wd.heap.size, 0, none⟩ 1 1 (intCells (k : Int)) rfl rfl (World.news_of_block B43b.out) (int_one _) (by omega) (by unfold maxLen; omega) (by omega) (Nat.le_trans Oa5.out.b1 (Nat.le_trans Oa5.out.tb Oa5.out.sz)) ?_
            intro gy9 capy9 y9 hown hgr hor hlt hkeep
            have Oy9 := Lib.hid (Oa5.out.appR hgr hkeep)
            have Gry9 := Lib.hid (Gr.mk' (top := wa.heap.size) hown hor Oa5.out.sz hlt)
            have AP := Lib.hid (apart_last (n := rt.length + 1) (cap := capy9) Gpa5.out Oa5.out hor)
            have Gpy9 := Lib.hid (Gpa5.out.appR Oa5.out hgr)
            clear hown hgr hor hlt hkeep
            refine hK.out _ _ ?_ (fun hHeld => ?_)
            · exact ⟨(Oy9.out.box BX.out HNX.out).cell 0, (Oy9.out.box BX.out HNX.out).cell 1⟩
            clear hK K
            try go_frame
            refine wpAnyH_ready (rs := [11]) (by kernel_rfl) (by simp) ?_
            refine AllReadyH.cons rfl (fun K hK => ?_) AllReadyH.nil
            rw [if_pos (by rfl)]
            go_simp
            go_at_call 89
            refine (ih (pts ++ [t]) (rt ++ [(k : Int)]) _ _ _ _ w0 _ HR.out (Oy9.out.toBelow HB1.out) Gpy9.out.own Gry9.out.own AP.out (fun e => by simp at e) HG2.out HF2.out (by have := HRL.out; simp; omega) (by omega)).mono ?_
            rintro e x10 ⟨u, rfl, hll, hp, hr, hk⟩
            have O10 := Lib.hid (Oy9.out.after Gpy9.out Gry9.out hk hp hr)
            have HLL := Lib.hid hll
            have hsx := Oy9.out.sz
            have htb := Oy9.out.tb
            clear hll hp hr hk
            obtain ⟨U, cu, hU⟩ : ∃ U cu, u = .slice U (walkF d tgt f (pts ++ [t]) (rt ++ [(k : Int)])).length cu := by obtain ⟨U, cu, e, _⟩ := HLL.out.form; exact ⟨U, cu, e⟩
            subst hU
            go_simp
            refine hK.out _ _ ?_ (fun hHeld => ?_)
            · exact ⟨(O10.out.box BX.out HNX.out).cell 0, (O10.out.box BX.out HNX.out).cell 1⟩
            clear hK K
            try go_frame
            refine wpAnyH_ready (rs := [12]) (by kernel_rfl) (by simp) ?_
            refine AllReadyH.cons rfl (fun K hK => ?_) AllReadyH.nil
            refine step_append_LL _ rfl (.tmp 35) (.tmp 46) rfl O10.out.ll HLL.out hsx (by omega) O10.out.sz rfl rfl (by have := HLN.out; omega) (Nat.le_trans O10.out.tb O10.out.sz) ?_
            intro A9 c9 x12 hc9 hll9 hk9 _
            have hk9 := hk9.weak (ex' := fun i => w1.heap.size ≤ i) (fun i _ e => (O10.out.ll.range i e).1)
            have O12 := Lib.hid (O10.out.appLL hk9 hll9)
            clear hll9 hk9
            refine hK.out _ _ ?_ (fun hHeld => ?_)
            · exact ⟨(O12.out.box BX.out HNX.out).cell 0, (O12.out.box BX.out HNX.out).cell 1⟩
            clear hK K
            try go_frame
            refine wpAnyH_take (i := 13) (v := ?_) (by simp only [List.getElem?_toArray, List.getElem?_cons_succ, List.getElem?_cons_zero]; rfl) (by kernel_rfl) (by kernel_rfl) (by kernel_rfl) (by exact fun _ _ _ h => h) (Or.inl ⟨by rfl, ?_⟩) (by assumption) ?_; rotate_left; focus (intro w hSw; (try dsimp only at hSw); first | (go_simp; done) | (go_simp; with_reducible rfl))
            try go_frame
            refine wpAnyH_done (by kernel_rfl) ?_ _
            clear hHeld
            go_wp2
            go_roundw
            case rel => exact ⟨k + 1, by omega, by go_num, by rw [EU.out, ← List.length_append]; exact O12⟩
            case measure => simp [intOf]; omega
end Go.Proofs.Ytooeikimoheecaa
