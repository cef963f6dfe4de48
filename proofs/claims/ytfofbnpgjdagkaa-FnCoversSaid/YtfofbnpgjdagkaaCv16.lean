
/- What ExactRivalDuties and Dilworth and CoversLaw rests on, part 16: contracts and mathematics. -/
import Derived.Test.YtfofbnpgjdagkaaCv15
import Derived.Test.YtfofbnpgjdagkaaCv6
import Derived.Test.YtfofbnpgjdagkaaCv5
import Derived.Test.YtfofbnpgjdagkaaCv7
import Derived.Test.YtfofbnpgjdagkaaCv9
import Derived.Test.YtfofbnpgjdagkaaCv1
import Derived.Test.YtfofbnpgjdagkaaCv13
import Derived.Test.YtfofbnpgjdagkaaCv11
namespace Go.Proofs.Ytfofbnpgjdagkaa
open Go.RowKit
set_option maxRecDepth 100000
/-- The closure of isRivalOfAll. -/
theorem rival1 {B : Nat → Nat → Bool} (i k b m Pa Ka : Nat) (w : World) (hp : PairAt w b m B) (hik : i < k) (hkm : k < m) (ha : w.cell? ⟨Pa, 0, none⟩ = some (.map (some b))) (hk : w.cell? ⟨Ka, 0, none⟩ = some (.int .i64 (k : Int))) :
    Calls Try.prog 68 #[.int .i64 (i : Int), .pointer (some ⟨Pa, 0, none⟩), .pointer (some ⟨Ka, 0, none⟩)] w fun e w' => e = .returned (.bool (B i k)) ∧ w = w' := by
  have HLK := hp.look hik hkm
  obtain ⟨c, hc⟩ : ∃ c, B i k = c := ⟨_, rfl⟩
  rw [hc] at HLK
  rw [hc]
  clear hp hc hik hkm
  go_enter Try.func68, Try.ntmps68
  go_wp2
  go_ret
  exact ⟨rfl, rfl⟩
/-- The number goes with k. -/
def goesB (B : Nat → Nat → Bool) (k : Nat) (x : Int) : Bool := B x.toNat k
theorem goes_any (B : Nat → Nat → Bool) (k : Nat) (r : List Nat) : (castL r).any (goesB B k) = r.any (fun i => B i k) := by
  unfold castL
  rw [List.any_map]
  congr 1
set_option maxHeartbeats 4000000 in
theorem rivalIndex {B : Nat → Nat → Bool} (v : Value) (r : List Nat) (k b m Pa Ka : Nat) (w : World) (h : SlInt w v (castL r)) (hp : PairAt w b m B) (hr : ∀ x ∈ r, x < k) (hkm : k < m) (ha : w.cell? ⟨Pa, 0, none⟩ = some (.map (some b))) (hk : w.cell? ⟨Ka, 0, none⟩ = some (.int .i64 (k : Int))) :
    Calls Try.prog 71 #[v, .func (.func 68) #[] #[.pointer (some ⟨Pa, 0, none⟩), .pointer (some ⟨Ka, 0, none⟩)]] w fun e w' => e = .returned (.int .i64 (firstI (goesB B k) (castL r))) ∧ Below w.heap.size w w' := by
  have HS := Lib.hid h
  have HPA := Lib.hid hp
  have HR := Lib.hid hr
  have HA := Lib.hid ha
  have HK := Lib.hid hk
  obtain ⟨A1, c1, rfl⟩ := SlOf.form h
  have hla : Pa < w.heap.size := World.block_lt_of_cell? w _ ha
  have hlk : Ka < w.heap.size := World.block_lt_of_cell? w _ hk
  obtain ⟨q, hq⟩ : ∃ q, (castL r).length = q := ⟨_, rfl⟩
  have HQ := Lib.hid hq
  have hl : q ≤ 1000000000 := by have := h.1; omega
  rw [hq] at HS
  rw [hq]
  clear h hp hr ha hk hq
  go_enter Try.func71, Try.ntmps71
  go_wp2
  go_loopw [8] (fun i wr => ∃ j : Nat, j ≤ q ∧ i = .int .i64 (j : Int) ∧ Hid (NoOne (goesB B k) (castL r) j) ∧ Hid (Below w.heap.size w wr)) (fun i _ => q - (intOf i).toNat)
  case atStart => exact ⟨0, Nat.zero_le _, rfl, Lib.hid (NoOne.zero _ _), Lib.hid (Below.refl _ _)⟩
  case round =>
    obtain ⟨j, hj, rfl, hN, hb⟩ := hrel
    by_cases hlt : j < q
    rotate_left
    · obtain rfl : j = q := by omega
      have E := Lib.hid (firstI_none (p := goesB B k) (l := castL r) (by rw [HQ.out]; exact hN.out))
      go_wp2
      go_ret
      exact ⟨ret_int E.out.symm, hb.out⟩
    obtain ⟨y, hy⟩ : ∃ y, r[j]? = some y := ⟨_, List.getElem?_eq_getElem (by have := HQ.out; rw [castL_len] at this; omega)⟩
    have hn : (castL r)[j]? = some (y : Int) := castL_at hy
    have HY := Lib.hid (HR.out y (List.mem_of_getElem? hy))
    rcases HS.out.2 with ⟨he, _⟩ | ⟨g, o, c, e, hpos, hcap, hc⟩
    · rw [he] at hn; simp at hn
    injection e with hA' hqq hcp
    clear hqq
    subst hA' hcp
    have y0 := cell_onV (SlInt.cells hc j _ hn) hb.out
    have HN := Lib.hid hn
    obtain ⟨t, ht⟩ : ∃ t, goesB B k (y : Int) = t := ⟨_, rfl⟩
    have HT := Lib.hid ht
    have HTB := Lib.hid (show B y k = t from ht)
    clear hn ht hc hy hpos hcap
    go_wp2_with fail
    refine (rival1 y k b m Pa Ka _ (HPA.out.below hb.out) HY.out hkm ((hb.out.cell (p := ⟨Pa, 0, none⟩) hla).trans HA.out) ((hb.out.cell (p := ⟨Ka, 0, none⟩) hlk).trans HK.out)).mono ?_
    rw [HTB.out]
    rintro e wz ⟨rfl, rfl⟩
    clear y0
    cases t with
    | true =>
      have E := Lib.hid (firstI_at hN.out HN.out HT.out)
      go_wp2
      go_ret
      exact ⟨ret_int E.out.symm, hb.out⟩
    | false =>
      have N2 := Lib.hid (hN.out.next HN.out HT.out)
      go_wp2
      go_roundw
      case rel => exact ⟨j + 1, by omega, by go_num, N2, hb⟩
      case measure => simp [intOf]; omega
set_option maxHeartbeats 2000000 in
theorem rivalContains {B : Nat → Nat → Bool} (v : Value) (r : List Nat) (k b m Pa Ka : Nat) (w : World) (h : SlInt w v (castL r)) (hp : PairAt w b m B) (hr : ∀ x ∈ r, x < k) (hkm : k < m) (ha : w.cell? ⟨Pa, 0, none⟩ = some (.map (some b))) (hk : w.cell? ⟨Ka, 0, none⟩ = some (.int .i64 (k : Int))) :
    Calls Try.prog 67 #[v, .func (.func 68) #[] #[.pointer (some ⟨Pa, 0, none⟩), .pointer (some ⟨Ka, 0, none⟩)]] w fun e w' => e = .returned (.bool (r.any (fun i => B i k))) ∧ Below w.heap.size w w' := by
  have C := Lib.hid (rivalIndex v r k b m Pa Ka w h hp hr hkm ha hk)
  obtain ⟨i, hi⟩ : ∃ i, firstI (goesB B k) (castL r) = i := ⟨_, rfl⟩
  have HI := Lib.hid hi
  have E := Lib.hid (show r.any (fun i => B i k) = decide (0 ≤ i) by rw [← goes_any, ← firstI_any, hi])
  obtain ⟨A1, c1, rfl⟩ := SlOf.form h
  clear h hp hr ha hk hi
  go_enter Try.func67, Try.ntmps67
  go_wp2_with fail
  refine C.out.mono ?_
  rw [HI.out]
  rintro e w1 ⟨rfl, hb1⟩
  have B1 := Lib.hid hb1
  clear hb1
  go_wp2
  go_ret
  exact ⟨ret_bool (by rw [E.out]), B1.out⟩
set_option maxHeartbeats 2000000 in
theorem isRival_any {B : Nat → Nat → Bool} (v : Value) (r : List Nat) (k b m : Nat) (w : World) (h : SlInt w v (castL r)) (hp : PairAt w b m B) (hr : ∀ x ∈ r, x < k) (hkm : k < m) :
    Calls Try.prog 61 #[.map (some b), v, .int .i64 (k : Int)] w fun e w' => e = .returned (.bool (!r.any (fun i => B i k))) ∧ Below w.heap.size w w' := by
  have K1 := Blk.new w #[.map (some b)] 62
  have bl1 := Joins.below_alloc1 w (.cells #[.map (some b)] 62)
  have K2 := Blk.new (w.alloc (.cells #[.map (some b)] 62)) #[.int .i64 (k : Int)] 3
  have bl2 := Joins.below_alloc1 (w.alloc (.cells #[.map (some b)] 62)) (.cells #[.int .i64 (k : Int)] 3)
  have K1 := K1.below bl2
  have BB := bl1.trans (bl2.mono bl1.size)
  rw [World.size_alloc] at K2
  obtain ⟨W1, hW1⟩ : ∃ W, W = (w.alloc (.cells #[.map (some b)] 62)).alloc (.cells #[.int .i64 (k : Int)] 3) := ⟨_, rfl⟩
  rw [← hW1] at K1 K2 BB
  have HW := Lib.hid hW1
  have C := Lib.hid (rivalContains v r k b m w.heap.size (w.heap.size + 1) W1 (h.below BB) (hp.below BB) hr hkm (K1.cell 0) (K2.cell 0))
  have B0 := Lib.hid BB
  obtain ⟨t, ht⟩ : ∃ t, r.any (fun i => B i k) = t := ⟨_, rfl⟩
  have HT := Lib.hid ht
  rw [ht]
  obtain ⟨A1, c1, rfl⟩ := SlOf.form h
  clear h hp hr hkm bl1 bl2 K1 K2 BB hW1 ht
  go_enter Try.func61, Try.ntmps61
  go_wp2_with fail
  rw [← HW.out]
  refine C.out.mono ?_
  rw [HT.out]
  rintro e w1 ⟨rfl, hb1⟩
  have B1 := Lib.hid (B0.out.trans (hb1.mono B0.out.size))
  clear hb1
  go_wp2
  go_ret
  exact ⟨rfl, B1.out⟩
/-- What mostRivals leaves. -/
def RivIn (B : Nat → Nat → Bool) (m base : Nat) (v : Value) (r : List Nat) (n : Nat) (w : World) (e : Ending) (w' : World) : Prop :=
  ∃ u out, e = .returned u ∧ OwnInt w' w.heap.size u (castL out) ∧ BestE B m r n out ∧ KeepX (fun i => v.ownBlock = some i) w w' ∧ OwnInt w' base v (castL r)
theorem bestTo_len {B : Nat → Nat → Bool} {m n k : Nat} {r out : List Nat} (h : BestTo B m r n k out) : out.length ≤ r.length + (m - n) := by
  obtain ⟨⟨t, rfl, h1, h2, _⟩, _⟩ := h
  have := sorted_len (k := n) h1 h2
  rw [List.length_append]
  omega
set_option maxHeartbeats 16000000 in
theorem mostRivals_any {B : Nat → Nat → Bool} (hB : ∀ i j, B i j = B j i) (b m base : Nat) (hm12 : m ≤ 12) (hbb : b < base) : ∀ (f n : Nat) (v : Value) (r : List Nat) (q : Int) (w : World), PairAt w b m B → OwnInt w base v (castL r) → base ≤ w.heap.size → RivP B r → (∀ x ∈ r, x < n) → r.length ≤ n → q = (n : Int) → n ≤ m → m ≤ n + f →
    Calls Try.prog 43 #[.map (some b), v, .int .i64 q, .int .i64 (m : Int)] w (RivIn B m base v r n w) := by
  intro f
  induction f with
  | zero =>
    intro n v r q w hp ho hbw hr hlt hrn hq hnm hmf
    subst hq
    have HO := Lib.hid ho
    have HR := Lib.hid hr
    obtain rfl : n = m := by omega
    have CL := Lib.hid (cloneL v (castL r) w (ho.sl (by rw [castL_len]; omega)) (by rw [castL_len]; omega))
    obtain ⟨A1, c1, rfl⟩ := own_form ho
    obtain ⟨a, ha⟩ : ∃ a, (castL r).length = a := ⟨_, rfl⟩
    rw [ha] at HO CL
    try rw [ha]
    have gn : decide ((n : Int) < (n : Int)) = false := decide_eq_false (by omega)
    clear hp ho hr hlt ha hB
    go_enter Try.func43, Try.ntmps43
    go_wp2_with fail
    refine CL.out.mono ?_
    rintro e w1 ⟨u, rfl, hou, hb1⟩
    have OU := Lib.hid hou
    have B1 := Lib.hid hb1
    obtain ⟨A2, c2, rfl⟩ := own_form hou
    clear hou hb1
    go_wp2
    refine wp_loop_rounds 1 ?_
    rw [rounds_succ]
    go_wp2
    go_ret
    exact ⟨_, r, rfl, OU.out, (BestTo.start HR.out).stop (.inl (Nat.le_refl _)), KeepX.below B1.out, own_below HO.out B1.out⟩
  | succ f ih =>
    intro n v r q w hp ho hbw hr hlt hrn hq hnm hmf
    subst hq
    have IH := Lib.hid ih
    have HO := Lib.hid ho
    have HPA := Lib.hid hp
    have HR := Lib.hid hr
    have HLT := Lib.hid hlt
    have HB := Lib.hid hB
    have HBW := Lib.hid hbw
    have HBB := Lib.hid hbb
    have RV := Lib.hid (own_range ho)
    have CL := Lib.hid (cloneL v (castL r) w (ho.sl (by rw [castL_len]; omega)) (by rw [castL_len]; omega))
    obtain ⟨i0, hi0, hz0, hz1, hz2⟩ := info_parts info_int
    have HI := Lib.hid (And.intro hi0 (And.intro hz0 (And.intro hz1 hz2)))
    clear hi0 hz0 hz1 hz2
    obtain ⟨A1, c1, rfl⟩ := own_form ho
    obtain ⟨a, ha⟩ : ∃ a, (castL r).length = a := ⟨_, rfl⟩
    have HRL := Lib.hid (show r.length = a by rw [← ha, castL_len])
    have han : a ≤ n := by rw [← ha, castL_len]; exact hrn
    rw [ha] at HO CL RV
    try rw [ha]
    have HNM := Lib.hid hmf
    have hnm' : n ≤ m := hnm
    clear hp ho hr hlt ha hB ih hbw hbb hrn hnm hmf
    go_enter Try.func43, Try.ntmps43
    go_wp2_with fail
    refine CL.out.mono ?_
    rintro e w1 ⟨u, rfl, hou, hb1⟩
    have OU := Lib.hid hou
    have X1 := Lib.hid (show KeepX (fun i => (Value.slice A1 a c1).ownBlock = some i) w w1 from KeepX.below hb1)
    have O1 := Lib.hid (own_below HO.out hb1)
    have BT0 := Lib.hid (show BestTo B m r n n r from BestTo.start HR.out)
    clear hou hb1
    go_wp2
    go_loopw [9, 10] (fun s t wr => ∃ (k : Nat) (u : Value) (out : List Nat), n ≤ k ∧ k ≤ m ∧ t = .int .i64 (k : Int) ∧ s = u ∧ Hid (OwnInt wr w.heap.size u (castL out)) ∧ Hid (BestTo B m r n k out) ∧ Hid (OwnInt wr base (.slice A1 a c1) (castL r)) ∧ Hid (KeepX (fun i => (Value.slice A1 a c1).ownBlock = some i) w wr)) (fun _ t _ => m - (intOf t).toNat)
    case atStart => exact ⟨n, u, r, Nat.le_refl _, by omega, rfl, rfl, OU, BT0, O1, X1⟩
    case round =>
      obtain ⟨k, u, out, hnk, hkm, rfl, rfl, hU, hT, hV, hX⟩ := hrel
      obtain ⟨wo, rfl⟩ : ∃ W, W = wr := ⟨_, rfl⟩
      have HUS := Lib.hid (show wo.heap.size < 0 ∨ w.heap.size ≤ wo.heap.size from .inr hX.out.size)
      obtain ⟨A2, c2, hu⟩ := own_form hU.out
      obtain ⟨d, hd⟩ : ∃ d, (castL out).length = d := ⟨_, rfl⟩
      have HOL := Lib.hid (show out.length = d by rw [← hd, castL_len])
      have hd24 : d ≤ 24 := by have := bestTo_len hT.out; have := HOL.out; have := HRL.out; omega
      rw [hd] at hu
      subst hu
      clear hd
      by_cases hkm' : k < m
      rotate_left
      · obtain rfl : k = m := by omega
        have BE := Lib.hid (hT.out.stop (.inl (Nat.le_refl _)))
        go_wp2
        go_ret
        exact ⟨_, out, rfl, hU.out, BE.out, hX.out, hV.out⟩
      have wa : IntKind.i64.wrap ((a : Int) + (m : Int)) = (a : Int) + (m : Int) := by rw [IntKind.wrap_i64]; omega
      have wb : IntKind.i64.wrap ((a : Int) + (m : Int) - (k : Int)) = (a : Int) + (m : Int) - (k : Int) := by rw [IntKind.wrap_i64]; omega
      by_cases hroom : d < a + m - k
      rotate_left
      · have gr : decide ((d : Int) < (a : Int) + (m : Int) - (k : Int)) = false := decide_eq_false (by omega)
        have BE := Lib.hid (hT.out.stop (.inr (by rw [HRL.out, HOL.out]; omega)))
        clear hroom
        go_wp2
        go_ret
        exact ⟨_, out, rfl, hU.out, BE.out, hX.out, hV.out⟩
      have gr : decide ((d : Int) < (a : Int) + (m : Int) - (k : Int)) = true := decide_eq_true (by omega)
      have wk : IntKind.i64.wrap ((k : Int) + 1) = (k : Int) + 1 := by rw [IntKind.wrap_i64]; omega
      have PAW := Lib.hid (HPA.out.keep hX.out (fun e => by have := (RV.out b e).1; have := HBB.out; omega))
      have SLV := Lib.hid (hV.out.sl (by rw [castL_len, HRL.out]; omega))
      have HRK := Lib.hid (show ∀ x ∈ r, x < k from fun x hx => by have := HLT.out x hx; omega)
      obtain ⟨t, ht⟩ : ∃ t, r.any (fun i => B i k) = t := ⟨_, rfl⟩
      have HT := Lib.hid ht
      clear ht hroom
      go_wp2_with fail
      refine (isRival_any _ r k b m _ SLV.out PAW.out HRK.out hkm').mono ?_
      rw [HT.out]
      rintro e w3 ⟨rfl, hb3⟩
      have X3 := Lib.hid (hX.out.trans (KeepX.below hb3))
      have U3 := Lib.hid (own_below hU.out hb3)
      have V3 := Lib.hid (own_below hV.out hb3)
      have P3 := Lib.hid (PAW.out.below hb3)
      clear hb3 gr
      cases t with
      | true =>
        have BN := Lib.hid (show BestTo B m r n (k + 1) out from by
          obtain ⟨i, hi, hbi⟩ := List.any_eq_true.1 HT.out
          exact hT.out.skip hi (by rw [HB.out]; exact hbi))
        go_wp2
        go_roundw
        case rel => exact ⟨k + 1, _, out, by omega, by omega, by go_num, rfl, U3, BN, V3, X3⟩
        case measure => simp [intOf]; omega
      | false =>
      have RN := Lib.hid (show RivP B (r ++ [k]) from riv_snoc HR.out (fun i hi => by
        have := List.any_eq_false.1 HT.out i hi
        rw [HB.out]
        simpa using this))
      have hb4 := Joins.below_alloc1 w3 (.cells #[.int .i64 (k : Int)] 3)
      have V4 := Lib.hid (own_below V3.out hb4)
      have U4 := Lib.hid (own_below U3.out hb4)
      have P4 := Lib.hid (P3.out.below hb4)
      have X4 := Lib.hid (X3.out.trans (KeepX.below hb4))
      have SZ := Lib.hid (show w.heap.size ≤ w3.heap.size from X3.out.size)
      have RU := Lib.hid (own_range U3.out)
      have HNW := Lib.hid (show ∀ j u, [Value.int .i64 (k : Int)][j]? = some u → (w3.alloc (.cells #[.int .i64 (k : Int)] 3)).cell? ((⟨w3.heap.size, 0, none⟩ : Addr).add j) = some u from World.news_of_block (heap_alloc_new w3 (.cells #[.int .i64 (k : Int)] 3)))
      have hbs : base ≤ w3.heap.size + 1 := by have := HBW.out; have := SZ.out; omega
      clear hb4
      go_wp2_with (at_builtin; refine wpList_plain rfl fun K hK => wp_of_step (ops := #[]) rfl (step_append_keeps _ rfl (.tmp 37) (.tmp 39) 23 rfl base 3 i0 _ 1 8 Try.underlying23 HI.out.1 HI.out.2.1 HI.out.2.2.1 HI.out.2.2.2 rfl (by omega) (.slice A1 a c1) a ((castL r).flatMap intCells) rfl (by have := V4.out; unfold OwnInt OwnOf at this; rw [castL_len, HRL.out] at this; exact this) ⟨w3.heap.size, 0, none⟩ 1 1 [.int .i64 (k : Int)] rfl rfl HNW.out (by intro z hz; simp at hz; subst hz; rfl) (by omega) (by unfold maxLen; omega) (by omega) (by first | omega | (simp; omega)) ?_); intro g5 cap5 w5 hown5 hgrow5 hor5 hlt5 hkeep5; refine hK _ _ ?_; have OWN5 := Lib.hid hown5; have GR5 := Lib.hid hgrow5; have OR5 := Lib.hid hor5; have LT5 := Lib.hid hlt5; have KP5 := Lib.hid hkeep5; clear hown5 hgrow5 hor5 hlt5 hkeep5)
      have V5 := Lib.hid (show OwnInt w5 base (.slice A1 a c1) (castL r) from by have := KP5.out; unfold OwnInt OwnOf; rw [castL_len, HRL.out]; exact this)
      have N5 := Lib.hid (show OwnInt w5 base (.slice (some ⟨g5, 0, none⟩) (a + 1) cap5) (castL (r ++ [k])) from by
        have := OWN5.out
        unfold OwnInt OwnOf
        rw [castL_snoc, List.flatMap_append, List.length_append, castL_len, HRL.out]
        exact this)
      have X5 := Lib.hid (X4.out.trans (KeepX.grown GR5.out (fun g e => e)))
      have U5 := Lib.hid (show OwnInt w5 w.heap.size (.slice A2 d c2) (castL out) from own_keep U4.out (KeepX.grown (ex := fun i => (Value.slice A1 a c1).ownBlock = some i) GR5.out (fun g e => e)) (fun g hg e => by have := (RU.out g hg).1; have := (RV.out g e).2; omega))
      have P5 := Lib.hid (P4.out.keep (KeepX.grown (ex := fun i => (Value.slice A1 a c1).ownBlock = some i) GR5.out (fun g e => e)) (fun e => by have := (RV.out b e).1; have := HBB.out; omega))
      have SZ5 := Lib.hid (show w3.heap.size + 1 ≤ w5.heap.size from by have := GR5.out.size; simpa using this)
      have GU := Lib.hid (show ∀ g, (Value.slice A2 d c2).ownBlock = some g → g ≠ g5 from fun g hg e => by
        subst e
        have h1 := RU.out g hg
        rcases OR5.out with h | h
        · have := (RV.out g h).2; omega
        · simp at h; omega)
      refine (IH.out (k + 1) (.slice (some ⟨g5, 0, none⟩) (a + 1) cap5) (r ++ [k]) ((k : Int) + 1) w5 P5.out N5.out (by have := SZ5.out; omega) RN.out (fun x hx => by
        rcases List.mem_append.1 hx with hx | hx
        · have := HRK.out x hx; omega
        · simp at hx; omega) (by rw [List.length_append, HRL.out]; simp; omega) (by push_cast; rfl) (by omega) (by have := HNM.out; omega)).mono ?_
      rintro e w6 ⟨u6, A, rfl, hu6, hb6, hk6, hn6⟩
      have BE6 := Lib.hid hb6
      have X6 := Lib.hid (X5.out.join (ex := fun i => (Value.slice A1 a c1).ownBlock = some i) hk6 (fun i _ e => e) (fun i hi e => by
        simp [Value.ownBlock] at e
        subst e
        rcases OR5.out with h | h
        · exact h
        · have := SZ.out; simp at h; omega))
      have U6 := Lib.hid (own_keep U5.out hk6 (fun g hg e => by
        simp [Value.ownBlock] at e
        exact GU.out g hg e.symm))
      have V6 := Lib.hid (show OwnInt w6 base (.slice A1 a c1) (castL r) from by
        by_cases e : (Value.slice A1 a c1).ownBlock = some g5
        · have h5 := N5.out
          rw [castL_snoc] at h5 hn6
          exact own_prefix V5.out h5 e rfl hn6
        · exact own_keep V5.out hk6 (fun g hg e' => by
            simp only [Value.ownBlock] at e' hg e
            exact e (by rw [hg, e'])))
      have M6 := Lib.hid (own_lo hu6 (show w.heap.size ≤ w5.heap.size by have := SZ.out; have := SZ5.out; omega))
      obtain ⟨A6, c6, hu⟩ := own_form hu6
      obtain ⟨z, hz⟩ : ∃ z, (castL A).length = z := ⟨_, rfl⟩
      have HAL := Lib.hid (show A.length = z by rw [← hz, castL_len])
      rw [hz] at hu
      subst hu
      clear hu6 hb6 hk6 hn6 hz
      by_cases hmore : d < z
      · have gm : decide ((d : Int) < (z : Int)) = true := decide_eq_true (by omega)
        have gn : decide (d < z) = true := decide_eq_true hmore
        have BN := Lib.hid (hT.out.more hnk hkm' BE6.out (by rw [HOL.out, HAL.out]; exact hmore))
        clear hmore
        go_wp2
        go_roundw
        case rel => exact ⟨k + 1, _, A, by omega, by omega, by go_num, rfl, M6, BN, V6, X6⟩
        case measure => simp [intOf]; omega
      · have gm : decide ((d : Int) < (z : Int)) = false := decide_eq_false (by omega)
        have gn : decide (d < z) = false := decide_eq_false hmore
        have BN := Lib.hid (hT.out.less BE6.out (by rw [HOL.out, HAL.out]; omega))
        clear hmore
        go_wp2
        go_roundw
        case rel => exact ⟨k + 1, _, out, by omega, by omega, by go_num, rfl, U6, BN, V6, X6⟩
        case measure => simp [intOf]; omega
end Go.Proofs.Ytfofbnpgjdagkaa
namespace Go.Proofs.Ytfofbnpgjdagkaa
open Go.RowKit
set_option maxRecDepth 100000
theorem table_good {p : Int} {mv : List Int} (hp : 0 ≤ p ∧ p < 40) (hl : mv.length = 64) (h : ∀ x ∈ mv, 0 ≤ x ∧ x ≤ 20) : tableB p mv = true := by
  unfold tableB
  rw [inB_mk (by omega) (by omega), decide_eq_true hl, List.all_eq_true.2 (fun x hx => inB_mk (by have := h x hx; omega) (by have := h x hx; omega))]
  rfl
theorem covers_ok {p : Int} {mv : List Int} {l : List DutyD} (hl : dutiesB l = true) (ht : tableB p mv = true) : ∃ w n, leastCov p mv l = some (w, n) ∧ CovOk (bothAt p mv l) n w ∧ w.length = l.length ∧ usedP w = n ∧ n ≤ l.length ∧ isCovB p mv l (castL w) = true ∧ (rivalL (bothAt p mv l) l.length).length ≤ n ∧ rivalD p mv l = castL (rivalL (bothAt p mv l) l.length) ∧ (l.length = 0 ↔ n = 0) := by
  obtain ⟨w, n, e, hc, hw, hu, hn, _⟩ := cover_some (bothAt p mv l) l.length
  refine ⟨w, n, by unfold leastCov; rw [if_pos ⟨hl, ht⟩]; exact e, hc, hw, hu, hn, isCov_of hl hc hn hw, rivals_le (bothAt_comm p mv l) hc hw, by unfold rivalD; rw [if_pos ⟨hl, ht⟩], fun h => by omega, fun h => ?_⟩
  rcases Nat.eq_zero_or_pos l.length with h0 | h0
  · exact h0
  · obtain ⟨x, hx⟩ : ∃ x, w[0]? = some x := ⟨_, List.getElem?_eq_getElem (by omega)⟩
    have := hc.lt x (List.mem_of_getElem? hx)
    omega
theorem rivals_at {B : Nat → Nat → Bool} {m i j a b : Nat} (ha : (rivalL B m)[i]? = some a) (hb : (rivalL B m)[j]? = some b) (hj : j < i) : a < m ∧ b < m ∧ a ≠ b ∧ B a b = false := by
  obtain ⟨h1, h2, h3⟩ := rival_ok (B := B) (m := m)
  have hi' := (List.getElem?_eq_some_iff.1 ha)
  have hj' := (List.getElem?_eq_some_iff.1 hb)
  refine ⟨h1 a (List.mem_of_getElem? ha), h1 b (List.mem_of_getElem? hb), fun e => ?_, ?_⟩
  · have := List.pairwise_iff_getElem.1 h2 j i hj'.1 hi'.1 hj
    exact this (by rw [hj'.2, hi'.2, e])
  · have := List.pairwise_iff_getElem.1 h3 j i hj'.1 hi'.1 hj
    rwa [hj'.2, hi'.2] at this
theorem can_no {p : Int} {mv : List Int} {l : List DutyD} {a b : Nat} {d e : DutyD} (h : bothAt p mv l a b = false) (hd : l[a]? = some d) (he : l[b]? = some e) : canB p mv d e = false ∧ canB p mv e d = false := by
  rw [bothAt_at hd he] at h
  unfold bothB at h
  cases h1 : canB p mv d e with
  | true => rw [h1] at h; cases h
  | false =>
    rw [h1] at h
    exact ⟨rfl, h⟩
/-- The persons of the first i duties, each once. -/
def SeenTo (w : List Nat) (i : Nat) (s : List Nat) : Prop := s.Nodup ∧ ∀ x, x ∈ s ↔ x ∈ w.take i
theorem SeenTo.zero (w : List Nat) : SeenTo w 0 [] := ⟨List.nodup_nil, fun x => by simp⟩
theorem SeenTo.old {w : List Nat} {i x : Nat} {s : List Nat} (h : SeenTo w i s) (hx : w[i]? = some x) (hm : x ∈ s) : SeenTo w (i + 1) s := by
  refine ⟨h.1, fun y => ?_⟩
  rw [take_snoc' w i x hx, List.mem_append, h.2 y]
  constructor
  · exact .inl
  · rintro (h1 | h1)
    · exact h1
    · simp at h1; subst h1; exact (h.2 y).1 hm
theorem SeenTo.more {w : List Nat} {i x : Nat} {s : List Nat} (h : SeenTo w i s) (hx : w[i]? = some x) (hm : ¬ x ∈ s) : SeenTo w (i + 1) (s ++ [x]) := by
  refine ⟨?_, fun y => ?_⟩
  · rw [List.nodup_append]
    exact ⟨h.1, by simp, fun a ha b hb e => by simp at hb; subst hb; subst e; exact hm ha⟩
  · rw [take_snoc' w i x hx, List.mem_append, List.mem_append, h.2 y]
theorem SeenTo.len {w : List Nat} {i : Nat} {s : List Nat} (h : SeenTo w i s) : s.length ≤ w.length := nodup_sub h.1 (fun x hx => List.mem_of_mem_take ((h.2 x).1 hx))
theorem cast_any (s : List Nat) (x : Nat) : (castL s).any (fun y => y == (x : Int)) = decide (x ∈ s) := by
  unfold castL
  rw [List.any_map]
  by_cases h : x ∈ s
  · rw [decide_eq_true h, List.any_eq_true]
    exact ⟨x, h, by simp⟩
  · rw [decide_eq_false h, List.any_eq_false]
    intro y hy e
    have e2 : (y : Int) = (x : Int) := by simpa using e
    have e3 : y = x := by omega
    subst e3
    exact h hy
def AnyTo (l : List Int) (x : Int) (k : Nat) : Prop := (l.take k).any (fun y => y == x) = false
theorem AnyTo.next {l : List Int} {x y : Int} {k : Nat} (h : AnyTo l x k) (hy : l[k]? = some y) (hn : (y == x) = false) : AnyTo l x (k + 1) := by
  unfold AnyTo at h ⊢
  rw [take_snoc' l k y hy, List.any_append, h]
  simp [hn]
set_option maxHeartbeats 4000000 in
theorem has_any (v : Value) (l : List Int) (x : Int) (w : World) (h : SlInt w v l) :
    Calls Try.prog 17 #[v, .int .i64 x] w fun e w' => e = .returned (.bool (l.any (fun y => y == x))) ∧ w = w' := by
  have HS := Lib.hid h
  have hl := h.1
  obtain ⟨A1, c1, rfl⟩ := SlOf.form h
  obtain ⟨m, hm⟩ : ∃ m, l.length = m := ⟨_, rfl⟩
  have HM := Lib.hid hm
  rw [hm] at hl HS ⊢
  clear h hm
  go_enter Try.func17, Try.ntmps17
  go_wp2
  go_loopw [9] (fun i wr => ∃ k : Nat, k ≤ m ∧ i = .int .i64 (k : Int) ∧ Hid (AnyTo l x k) ∧ w = wr) (fun i _ => m - (intOf i).toNat)
  case atStart => exact ⟨0, Nat.zero_le _, rfl, Lib.hid rfl, rfl⟩
  case round =>
    obtain ⟨k, hk, rfl, hN, rfl⟩ := hrel
    by_cases hlt : k < m
    rotate_left
    · obtain rfl : k = m := by omega
      have E := Lib.hid (show l.any (fun y => y == x) = false by have h := hN.out; unfold AnyTo at h; rwa [List.take_of_length_le (by rw [HM.out]; omega)] at h)
      go_wp2
      go_ret
      exact ⟨ret_bool E.out.symm, rfl⟩
    obtain ⟨y, hy⟩ : ∃ x, l[k]? = some x := ⟨_, List.getElem?_eq_getElem (by have := HM.out; omega)⟩
    rcases HS.out.2 with ⟨he, _⟩ | ⟨g, o, c', e, lpos, lcap, lc⟩
    · rw [he] at hy; simp at hy
    injection e with ea e2 e3
    subst ea
    clear e2 e3 lpos lcap
    have y0 := SlInt.cells lc _ _ hy
    have HY := Lib.hid hy
    clear lc hy
    cases hn : (y == x) with
    | true =>
      have E := Lib.hid (show l.any (fun y => y == x) = true by rw [List.any_eq_true]; exact ⟨y, List.mem_of_getElem? HY.out, hn⟩)
      go_wp2
      go_ret
      exact ⟨ret_bool E.out.symm, rfl⟩
    | false =>
      have N2 := Lib.hid (hN.out.next HY.out hn)
      go_wp2
      go_roundw
      case rel => exact ⟨k + 1, by omega, by go_num, N2, by first | rfl | trivial⟩
      case measure => simp [intOf]; omega
end Go.Proofs.Ytfofbnpgjdagkaa
