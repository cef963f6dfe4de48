
/- Lock chambers, the model's side: l10Fits and PrefixLockings: contracts. -/
import Derived.Test.YtphagahhhfiiaaaPackShips
import Derived.Test.YtphagahhhfiiaaaLongMath
import Derived.Test.YtphagahhhfiiaaaSlPart
namespace Go.Proofs.Ytphagahhhfiiaaa
open Go.RowKit
set_option maxRecDepth 100000

/-- The first k ships are not too long. -/
def ShortTo (k : ChamberD) (l : List Int) (i : Nat) : Prop := ∀ (t : Nat) x, t < i → l[t]? = some x → x ≤ k.length
theorem ShortTo.next {k : ChamberD} {l : List Int} {i : Nat} {x : Int} (h : ShortTo k l i) (hx : l[i]? = some x) (hb : x ≤ k.length) : ShortTo k l (i + 1) := fun t y ht hy => by
  by_cases e : t = i
  · subst e; rw [hx] at hy; injection hy with hy; omega
  · exact h t y (by omega) hy
theorem ShortTo.all {k : ChamberD} {l : List Int} (h : ShortTo k l l.length) : shortB k l = true := by
  unfold shortB
  rw [List.all_eq_true]
  intro x hx
  obtain ⟨i, hi, e⟩ := List.getElem_of_mem hx
  exact decide_eq_true (h i x hi (by rw [List.getElem?_eq_getElem hi, e]))
theorem shortB_no {k : ChamberD} {l : List Int} {i : Nat} {x : Int} (hx : l[i]? = some x) (hb : ¬ x ≤ k.length) : shortB k l = false := by
  unfold shortB
  rw [List.all_eq_false]
  exact ⟨x, List.mem_of_getElem? hx, by simpa using hb⟩


set_option maxHeartbeats 8000000 in
theorem specFits (k : ChamberD) (yl : Value) (l : List Int) (w : World) (rl : SlInt w yl l) :
    Calls Try.prog 50 #[k.val, yl] w (fun e w' => e = .returned (.bool (fitsB k l)) ∧ Below w.heap.size w w') := by
  have Rl := Lib.hid rl
  obtain ⟨Al, cl, rfl⟩ := SlOf.form rl
  clear rl
  obtain ⟨W0, hW0⟩ : ∃ W0, W0 = (w.alloc (.cells #[.int .i64 k.length, .int .i64 k.lanes, .int .i64 k.minutes] 24)) := ⟨_, rfl⟩
  have B := Lib.hid (Joins.below_alloc1 w (.cells #[.int .i64 k.length, .int .i64 k.lanes, .int .i64 k.minutes] 24))
  have Kk := Lib.hid (Blk.new w #[.int .i64 k.length, .int .i64 k.lanes, .int .i64 k.minutes] 24)
  have HW0 := Lib.hid hW0
  rw [← hW0] at B Kk
  clear hW0
  obtain ⟨b1, hb1⟩ : ∃ b, chamB k = b := ⟨_, rfl⟩
  have Hb1 := Lib.hid hb1
  obtain ⟨b2, hb2⟩ : ∃ b, lensB l = b := ⟨_, rfl⟩
  have Hb2 := Lib.hid hb2
  have E0 := Lib.hid (show fitsB k l = (b1 && b2 && shortB k l) by unfold fitsB; rw [hb1, hb2])
  have HL8 := Lib.hid (fun h => lensB_len (l := l) h)
  clear hb1 hb2
  cases b1 with
  | false =>
    have E := Lib.hid (E0.out.trans (show _ = false by simp))
    go_enter Try.func50, Try.ntmps50
    have vk0 : W0.cell? ⟨w.heap.size, 0, none⟩ = some (.int .i64 k.length) := Kk.out.cell 0
    have vk1 : W0.cell? ⟨w.heap.size, 1, none⟩ = some (.int .i64 k.lanes) := Kk.out.cell 1
    have vk2 : W0.cell? ⟨w.heap.size, 2, none⟩ = some (.int .i64 k.minutes) := Kk.out.cell 2
    go_wp2_with fail
    rw [← HW0.out]
    clear vk0 vk1 vk2
    refine (specChamberOk k _).mono ?_
    rw [Hb1.out]
    rintro e w1 ⟨rfl, hb1⟩
    have B1 := Lib.hid (B.out.trans (hb1.mono B.out.size))
    have Kk_1 := Lib.hid (Kk.out.below hb1)
    clear hb1
    have vk0 : w1.cell? ⟨w.heap.size, 0, none⟩ = some (.int .i64 k.length) := Kk_1.out.cell 0
    have vk1 : w1.cell? ⟨w.heap.size, 1, none⟩ = some (.int .i64 k.lanes) := Kk_1.out.cell 1
    have vk2 : w1.cell? ⟨w.heap.size, 2, none⟩ = some (.int .i64 k.minutes) := Kk_1.out.cell 2
    go_wp2
    go_ret
    exact ⟨ret_bool E.out.symm, B1.out⟩
  | true =>
  cases b2 with
  | false =>
    have E := Lib.hid (E0.out.trans (show _ = false by simp))
    go_enter Try.func50, Try.ntmps50
    have vk0 : W0.cell? ⟨w.heap.size, 0, none⟩ = some (.int .i64 k.length) := Kk.out.cell 0
    have vk1 : W0.cell? ⟨w.heap.size, 1, none⟩ = some (.int .i64 k.lanes) := Kk.out.cell 1
    have vk2 : W0.cell? ⟨w.heap.size, 2, none⟩ = some (.int .i64 k.minutes) := Kk.out.cell 2
    go_wp2_with fail
    rw [← HW0.out]
    clear vk0 vk1 vk2
    refine (specChamberOk k _).mono ?_
    rw [Hb1.out]
    rintro e w1 ⟨rfl, hb1⟩
    have B1 := Lib.hid (B.out.trans (hb1.mono B.out.size))
    have Kk_1 := Lib.hid (Kk.out.below hb1)
    clear hb1
    have vk0 : w1.cell? ⟨w.heap.size, 0, none⟩ = some (.int .i64 k.length) := Kk_1.out.cell 0
    have vk1 : w1.cell? ⟨w.heap.size, 1, none⟩ = some (.int .i64 k.lanes) := Kk_1.out.cell 1
    have vk2 : w1.cell? ⟨w.heap.size, 2, none⟩ = some (.int .i64 k.minutes) := Kk_1.out.cell 2
    go_wp2_with fail
    clear vk0 vk1 vk2
    refine (specLengthsOk _ l _ (Rl.out.below B1.out)).mono ?_
    rw [Hb2.out]
    rintro e w2 ⟨rfl, hb2⟩
    have B2 := Lib.hid (B1.out.trans (hb2.mono B1.out.size))
    have Kk_2 := Lib.hid (Kk_1.out.below hb2)
    clear hb2
    have vk0 : w2.cell? ⟨w.heap.size, 0, none⟩ = some (.int .i64 k.length) := Kk_2.out.cell 0
    have vk1 : w2.cell? ⟨w.heap.size, 1, none⟩ = some (.int .i64 k.lanes) := Kk_2.out.cell 1
    have vk2 : w2.cell? ⟨w.heap.size, 2, none⟩ = some (.int .i64 k.minutes) := Kk_2.out.cell 2
    go_wp2
    go_ret
    exact ⟨ret_bool E.out.symm, B2.out⟩
  | true =>
  have E1 := Lib.hid (E0.out.trans (show _ = shortB k l by simp))
  have h8 := HL8.out Hb2.out
  obtain ⟨m, hm⟩ : ∃ m, l.length = m := ⟨_, rfl⟩
  have HM := Lib.hid hm
  rw [hm] at h8
  clear hm
  go_enter Try.func50, Try.ntmps50
  have vk0 : W0.cell? ⟨w.heap.size, 0, none⟩ = some (.int .i64 k.length) := Kk.out.cell 0
  have vk1 : W0.cell? ⟨w.heap.size, 1, none⟩ = some (.int .i64 k.lanes) := Kk.out.cell 1
  have vk2 : W0.cell? ⟨w.heap.size, 2, none⟩ = some (.int .i64 k.minutes) := Kk.out.cell 2
  go_wp2_with fail
  rw [← HW0.out]
  clear vk0 vk1 vk2
  refine (specChamberOk k _).mono ?_
  rw [Hb1.out]
  rintro e w1 ⟨rfl, hb1⟩
  have B1 := Lib.hid (B.out.trans (hb1.mono B.out.size))
  have Kk_1 := Lib.hid (Kk.out.below hb1)
  clear hb1
  have vk0 : w1.cell? ⟨w.heap.size, 0, none⟩ = some (.int .i64 k.length) := Kk_1.out.cell 0
  have vk1 : w1.cell? ⟨w.heap.size, 1, none⟩ = some (.int .i64 k.lanes) := Kk_1.out.cell 1
  have vk2 : w1.cell? ⟨w.heap.size, 2, none⟩ = some (.int .i64 k.minutes) := Kk_1.out.cell 2
  go_wp2_with fail
  clear vk0 vk1 vk2
  refine (specLengthsOk _ l _ (Rl.out.below B1.out)).mono ?_
  rw [Hb2.out]
  rintro e w2 ⟨rfl, hb2⟩
  have B2 := Lib.hid (B1.out.trans (hb2.mono B1.out.size))
  have Kk_2 := Lib.hid (Kk_1.out.below hb2)
  clear hb2
  have R1 := Lib.hid (SlOf.below Rl.out B2.out)
  rw [HM.out] at R1
  try rw [HM.out]
  go_wp2
  go_loopw [17] (fun t wr => ∃ i : Nat, i ≤ m ∧ t = .int .i64 (i : Int) ∧ Hid (ShortTo k l i) ∧ Hid (Below w2.heap.size w2 wr)) (fun t _ => m - (intOf t).toNat)
  case atStart => exact ⟨0, Nat.zero_le _, rfl, Lib.hid (fun t x ht => by omega), Lib.hid (Below.refl _ _)⟩
  case round =>
    obtain ⟨i, hi, rfl, hS, hb⟩ := hrel
    by_cases hlt : i < m
    rotate_left
    · obtain rfl : i = m := by omega
      have E := Lib.hid (E1.out.trans (ShortTo.all (by rw [HM.out]; exact hS.out)))
      go_wp2
      go_ret
      exact ⟨ret_bool E.out.symm, B2.out.trans (hb.out.mono B2.out.size)⟩
    obtain ⟨x, hx⟩ : ∃ x, l[i]? = some x := ⟨_, List.getElem?_eq_getElem (by have := HM.out; omega)⟩
    have HX := Lib.hid hx
    rcases R1.out.2 with ⟨he, _⟩ | ⟨gl, ol, cl', e, lpos, lcap, lc⟩
    · rw [he] at hx; simp at hx
    injection e with ea e2 e3
    subst ea
    clear e2 e3 lpos lcap
    have yx := cell_onV (SlInt.cells lc i x hx) hb.out
    have c0 : wr.cell? ⟨w.heap.size, 0, none⟩ = some (.int .i64 k.length) := (Kk_2.out.below hb.out).cell 0
    clear lc hx
    by_cases hov : x ≤ k.length
    rotate_left
    · have E := Lib.hid (E1.out.trans (shortB_no HX.out hov))
      have t1 : decide (k.length < x) = true := decide_eq_true (by omega)
      go_wp2
      go_ret
      exact ⟨ret_bool E.out.symm, B2.out.trans (hb.out.mono B2.out.size)⟩
    have SN := Lib.hid (hS.out.next HX.out hov)
    have t1 : decide (k.length < x) = false := decide_eq_false (by omega)
    have t2 : ¬ k.length < x := by omega
    go_wp2
    go_roundw
    case rel => exact ⟨i + 1, by omega, by go_num, SN, hb⟩
    case measure => simp [intOf]; omega

set_option maxHeartbeats 16000000 in
theorem specPrefixLockings (k : ChamberD) (yl : Value) (l : List Int) (w : World) (rl : SlInt w yl l) :
    Calls Try.prog 31 #[k.val, yl] w (NewInt (prefL k l) w) := by
  have Rl := Lib.hid rl
  obtain ⟨Al, cl, rfl⟩ := SlOf.form rl
  clear rl
  obtain ⟨W0, hW0⟩ : ∃ W0, W0 = (w.alloc (.cells #[.int .i64 k.length, .int .i64 k.lanes, .int .i64 k.minutes] 24)) := ⟨_, rfl⟩
  have B := Lib.hid (Joins.below_alloc1 w (.cells #[.int .i64 k.length, .int .i64 k.lanes, .int .i64 k.minutes] 24))
  have Kk := Lib.hid (Blk.new w #[.int .i64 k.length, .int .i64 k.lanes, .int .i64 k.minutes] 24)
  have HW0 := Lib.hid hW0
  rw [← hW0] at B Kk
  clear hW0
  obtain ⟨b, hb⟩ : ∃ b, fitsB k l = b := ⟨_, rfl⟩
  have Hb := Lib.hid hb
  clear hb
  have CF := Lib.hid (fun (v : Value) (w : World) (h : SlInt w v l) => specFits k v l w h)
  have CF := Lib.hid (fun (v : Value) (w : World) (h : SlInt w v l) => by have := CF.out v w h; rw [Hb.out] at this; exact this)
  go_enter Try.func31, Try.ntmps31
  have vk0 : W0.cell? ⟨w.heap.size, 0, none⟩ = some (.int .i64 k.length) := Kk.out.cell 0
  have vk1 : W0.cell? ⟨w.heap.size, 1, none⟩ = some (.int .i64 k.lanes) := Kk.out.cell 1
  have vk2 : W0.cell? ⟨w.heap.size, 2, none⟩ = some (.int .i64 k.minutes) := Kk.out.cell 2
  go_wp2_with fail
  rw [← HW0.out]
  clear vk0 vk1 vk2
  refine (CF.out _ _ (Rl.out.below B.out)).mono ?_
  rintro e w1 ⟨rfl, hb1⟩
  have B1 := Lib.hid (B.out.trans (hb1.mono B.out.size))
  have Kk_1 := Lib.hid (Kk.out.below hb1)
  clear hb1
  cases b with
  | false =>
    have E := Lib.hid (show prefL k l = [] by unfold prefL; rw [Hb.out]; rfl)
    have vk0 : w1.cell? ⟨w.heap.size, 0, none⟩ = some (.int .i64 k.length) := Kk_1.out.cell 0
    have vk1 : w1.cell? ⟨w.heap.size, 1, none⟩ = some (.int .i64 k.lanes) := Kk_1.out.cell 1
    have vk2 : w1.cell? ⟨w.heap.size, 2, none⟩ = some (.int .i64 k.minutes) := Kk_1.out.cell 2
    go_wp2
    go_ret
    exact ⟨_, rfl, by rw [E.out]; exact World.ownsRow_nil _ _ _ _, B1.out⟩
  | true =>
    obtain ⟨⟨h1, h2⟩, h3⟩ : (chamB k = true ∧ lensB l = true) ∧ shortB k l = true := by have := Hb.out; unfold fitsB at this; simpa using this
    have E0 := Lib.hid (show prefL k l = prefF k l.length l by unfold prefL; rw [Hb.out]; rfl)
    have H1 := Lib.hid h1
    have H2 := Lib.hid h2
    have H3 := Lib.hid h3
    have h8 := lensB_len h2
    obtain ⟨m, hm⟩ : ∃ m, l.length = m := ⟨_, rfl⟩
    have HM := Lib.hid hm
    rw [hm] at h8
    have R1 := Lib.hid (SlOf.below Rl.out B1.out)
    rw [hm] at R1
    try rw [hm]
    have hcap : 0 < m → m ≤ cl := fun h0 => by
      rcases R1.out.2 with ⟨he, _⟩ | ⟨g, o, c, e, _, hc, _⟩
      · rw [he] at hm; simp at hm; omega
      · injection e with _ _ e3; omega
    have HCAP := Lib.hid hcap
    obtain ⟨i0, hi, hz0, hz1, hz2⟩ := info1_int
    have HI := Lib.hid (And.intro hi (And.intro hz0 (And.intro hz1 hz2)))
    have hws := B1.out.size
    clear h1 h2 h3 hm hcap hi hz0 hz1 hz2
    have O0 := Lib.hid ((Liv.build (Liv.nil w1) 0 [] (by simp)).own _ List.mem_cons_self)
    have HB0 := Lib.hid (Joins.below_alloc1 w1 (.cells #[] 3))
    go_wp2
    go_loopw [5, 6] (fun q t wr => ∃ (at_ : Nat) (u : Value) (o : List Int), at_ ≤ m ∧ o.length ≤ at_ ∧ q = u ∧ t = .int .i64 (at_ : Int) ∧ Hid (OwnInt wr w1.heap.size u o) ∧ Hid (prefF k m l = o ++ prefF k m (l.drop at_)) ∧ Hid (Below w1.heap.size w1 wr)) (fun _ t _ => m - (intOf t).toNat)
    case atStart => exact ⟨0, _, [], Nat.zero_le _, by simp, rfl, rfl, O0, Lib.hid rfl, HB0⟩
    case round =>
      obtain ⟨p, u, o, hpm, hop, rfl, rfl, hO, hE, hb⟩ := hrel
      obtain ⟨Au, cu, rfl⟩ := own_form hO.out
      by_cases hlt : p < m
      rotate_left
      · obtain rfl : p = m := by omega
        have E := Lib.hid (show prefL k l = o by
          rw [E0.out, HM.out, hE.out, List.drop_eq_nil_of_le (by rw [HM.out]; exact Nat.le_refl _)]
          have : prefF k p [] = [] := by cases p <;> rfl
          rw [this, List.append_nil])
        go_wp2
        go_ret
        exact ⟨_, rfl, by rw [E.out]; exact own_lo (base' := w.heap.size) hO.out hws, B1.out.trans (hb.out.mono B1.out.size)⟩
      have hlti : (p : Int) < (m : Int) := by omega
      have hcap := HCAP.out (by omega)
      obtain ⟨r, hr⟩ : ∃ r, l.drop p = r := ⟨_, rfl⟩
      have HRR := Lib.hid hr
      have hrl : r.length = m - p := by rw [← hr, List.length_drop, HM.out]
      have HRL := Lib.hid hrl
      have HL2 := Lib.hid (show lensB r = true by rw [← hr]; exact lens_drop H2.out p)
      have HS2 := Lib.hid (show shortB k r = true by
        have h3 := H3.out
        unfold shortB at h3 ⊢
        rw [List.all_eq_true] at h3 ⊢
        rw [← hr]
        exact fun y hy => h3 y (List.mem_of_mem_drop hy))
      rcases R1.out.2 with ⟨he, _⟩ | ⟨gl, ol, cl', e, lpos, lcap, lc⟩
      · have := HM.out; rw [he] at this; simp at this; omega
      injection e with ea e2 e3
      subst ea
      clear e2 e3 lpos lcap lc
      have hN1 : longN k r ≠ 0 := by
        cases r with
        | nil => simp at hrl; omega
        | cons x r =>
          intro h
          have h4 := (longN_zero H1.out HL2.out).1 h
          have h5 := HS2.out
          unfold shortB at h5
          rw [List.all_eq_true] at h5
          have := of_decide_eq_true (h5 x (by simp))
          omega
      have HN1 := Lib.hid hN1
      have E1 := Lib.hid (show longN k r = longR (preB k r) 1 (m - p - 1) by
        obtain ⟨d, hd⟩ : ∃ d, m - p = d + 1 := ⟨m - p - 1, by omega⟩
        have e : longN k r = longR (preB k r) 0 (d + 1) := by unfold longN; rw [hrl, hd]
        rw [hd, show d + 1 - 1 = d by omega]
        cases h0 : preB k r 0 with
        | true => rw [e]; exact longR_yes h0
        | false => exact absurd (e.trans (longR_no h0)) hN1)
      clear hr hrl hN1 hcap
      go_wp2
      obtain ⟨wo, rfl⟩ : ∃ X, X = wr := ⟨_, rfl⟩
      go_loopw [7] (fun t wx => ∃ n : Nat, 1 ≤ n ∧ n ≤ m - p ∧ t = .int .i64 (n : Int) ∧ Hid (longN k r = longR (preB k r) n (m - p - n)) ∧ Hid (Below wo.heap.size wo wx)) (fun t _ => m - (intOf t).toNat)
      case atStart => exact ⟨1, Nat.le_refl _, by omega, rfl, E1, Lib.hid (Below.refl _ _)⟩
      case round =>
        obtain ⟨n, hn1, hnm, rfl, hE1, hb1⟩ := hrel
        have b1 := Lib.hid (hb.out.trans (hb1.out.mono hb.out.size))
        have hwpn : IntKind.i64.wrap ((p : Int) + (n : Int)) = (p : Int) + (n : Int) := by rw [IntKind.wrap_i64]; omega
        obtain ⟨y, hy⟩ : ∃ y, longN k r = y := ⟨_, rfl⟩
        have HY := Lib.hid hy
        have hyr : y ≤ m - p := by rw [← hy, ← HRL.out]; exact longN_le k r
        have hy0 : 0 < y := by have := HN1.out; omega
        clear hy
        by_cases hnl : n < m - p
        rotate_left
        · have hne : n = m - p := by omega
          have HYN := Lib.hid (show longN k r = n by rw [hE1.out, ← hne, Nat.sub_self]; rfl)
          have hnli : ¬ (p : Int) + (n : Int) < (m : Int) := by omega
          have hnlb : decide ((p : Int) + (n : Int) < (m : Int)) = false := decide_eq_false hnli
          clear hne
          have hb3 := Joins.below_alloc1 wr (.cells #[.int .i64 (n : Int)] 3)
          have OW := own_below hO.out hb1.out
          have AL := Lib.hid (own_below OW hb3)
          have b9 := Lib.hid (b1.out.trans (hb3.mono b1.out.size))
          have HNW := Lib.hid (World.news_of_block (heap_alloc_new wr (.cells #[.int .i64 (n : Int)] 3)))
          have hsz : w1.heap.size ≤ wr.heap.size + 1 := by have := b1.out.size; omega
          have hi := HI.out
          have OWNGE := Lib.hid (fun j (e : (Value.slice Au o.length cu).ownBlock = some j) => (own_ge AL.out e).1)
          have SN := Lib.hid (show prefF k m l = (o ++ [(n : Int)]) ++ prefF k m (l.drop (p + n)) by
            rw [hE.out, HRR.out]
            have hne : r ≠ [] := fun h => by have := HRL.out; rw [h] at this; simp at this; omega
            obtain ⟨f, hf⟩ : ∃ f, m = f + 1 := ⟨m - 1, by omega⟩
            have hdr : l.drop (p + n) = r.drop n := by rw [← HRR.out, List.drop_drop]
            rw [hdr, hf, prefF_go hne, HYN.out, List.append_assoc]
            congr 1
            show (n : Int) :: _ = (n : Int) :: _
            congr 1
            refine prefF_more H1.out (lens_drop HL2.out _) ?_ (by rw [List.length_drop, HRL.out]; omega) (by rw [List.length_drop, HRL.out]; omega)
            have h5 := HS2.out
            unfold shortB at h5 ⊢
            rw [List.all_eq_true] at h5 ⊢
            exact fun q hq => h5 q (List.mem_of_mem_drop hq))
          clear hb3 OW
          go_wp2_with (at_builtin; refine wpList_append_lies _ rfl _ _ _ rfl w1.heap.size 3 i0 _ 1 8 Try.underlying25 hi.1 hi.2.1 hi.2.2.1 hi.2.2.2 rfl (by omega) (.slice Au o.length cu) o.length (o.flatMap intCells) rfl AL.out ⟨wr.heap.size, 0, none⟩ 1 1 [.int .i64 (n : Int)] (by first | rfl | simp) rfl HNW.out (by simp [Value.oneCell']) (by omega) (by unfold maxLen; omega) (by omega) (by first | omega | (simp; omega)) _ rfl ?_; intro g4 cap4 w4 hown4 hgrow4 hor4 hlt4; have O4 := Lib.hid (show OwnInt w4 w1.heap.size (.slice (some ⟨g4, 0, none⟩) (o.length + 1) cap4) (o ++ [(n : Int)]) by unfold OwnInt OwnOf; rw [List.length_append, List.flatMap_append]; exact hown4); have B4 := Lib.hid (b9.out.grown hgrow4 b9.out.size (fun j e => OWNGE.out j e)); clear hown4 hgrow4 hor4 hlt4)
          go_roundw
          case rel => exact ⟨p + n, _, o ++ [(n : Int)], by omega, by simp; omega, rfl, by go_num, O4, SN, B4⟩
          case measure => simp [intOf]; omega
        have hnli : (p : Int) + (n : Int) < (m : Int) := by omega
        have hwpn1 : IntKind.i64.wrap ((p : Int) + (n : Int) + 1) = (p : Int) + (n : Int) + 1 := by rw [IntKind.wrap_i64]; omega
        obtain ⟨mj, hmj⟩ : ∃ mj, m - p - n = mj + 1 := ⟨m - p - n - 1, by omega⟩
        have E2 := Lib.hid (show longN k r = longR (preB k r) n (mj + 1) by rw [hE1.out, hmj])
        have HMJ := Lib.hid (show m - p - (n + 1) = mj by omega)
        have RD0 := SlOf.dropP (k := p) (l := l) (c := cl) (g := gl) (o := ol) (by rw [HM.out]; exact SlOf.below R1.out b1.out) (by rw [HM.out]; omega)
        rw [HRR.out, HM.out, ← HRL.out, Nat.mul_one] at RD0
        have RT := SlOf.takeP (k := n + 1) RD0 (by rw [HRL.out]; omega)
        have hd := (Below.refl wr.heap.size wr).drew
        have RT2 := Lib.hid (SlOf.below RT hd)
        obtain ⟨x2, hx2⟩ : ∃ X, X = wr.drew := ⟨_, rfl⟩
        rw [← hx2] at RT2 hd
        have HX2 := Lib.hid hx2
        have HD := Lib.hid hd
        have b2 := Lib.hid (b1.out.trans (hd.mono b1.out.size))
        have K2 := Lib.hid (Kk_1.out.below b2.out)
        obtain ⟨t, ht⟩ : ∃ t, preB k r n = t := ⟨_, rfl⟩
        have HT := Lib.hid ht
        have C := specPackShips k _ _ _ RT2.out
        rw [show (packO k (r.take (n + 1))).isSome = t from ht] at C
        have HC := Lib.hid C
        clear RD0 RT hd hx2 ht C hmj
        have e0 : wr.cell? ⟨w.heap.size, 0, none⟩ = some (.int .i64 k.length) := (Kk_1.out.below b1.out).cell 0
        have C0 := Lib.hid (show x2.cell? ⟨w.heap.size, 0, none⟩ = some (.int .i64 k.length) from K2.out.cell 0)
        have e1 : wr.cell? ⟨w.heap.size, 1, none⟩ = some (.int .i64 k.lanes) := (Kk_1.out.below b1.out).cell 1
        have C1 := Lib.hid (show x2.cell? ⟨w.heap.size, 1, none⟩ = some (.int .i64 k.lanes) from K2.out.cell 1)
        have e2 : wr.cell? ⟨w.heap.size, 2, none⟩ = some (.int .i64 k.minutes) := (Kk_1.out.below b1.out).cell 2
        have C2 := Lib.hid (show x2.cell? ⟨w.heap.size, 2, none⟩ = some (.int .i64 k.minutes) from K2.out.cell 2)
        go_upto_region 8 with fail
        refine wp_region_held_drew (S := (fun w' => w'.cell? ⟨w.heap.size, 0, none⟩ = some (.int .i64 k.length) ∧ w'.cell? ⟨w.heap.size, 1, none⟩ = some (.int .i64 k.lanes) ∧ w'.cell? ⟨w.heap.size, 2, none⟩ = some (.int .i64 k.minutes))) (by kernel_rfl) ?_ (fun hHeld => ?_)
        · (try dsimp only); go_keep
        rw [← HX2.out] at hHeld ⊢
        clear e0 e1 e2
        refine wpAnyH_take (i := 0) (v := ?_) (by simp only [List.getElem?_toArray, List.getElem?_cons_zero]; rfl) (by kernel_rfl) (by kernel_rfl) (by kernel_rfl) (by exact fun _ _ _ h => h) (Or.inl ⟨by rfl, ?_⟩) (by assumption) ?_; rotate_left; focus (intro w hSw; (try dsimp only at hSw); first | (go_simp; done) | (go_simp; with_reducible rfl))
        (try simp only [Act.put]); (try simp only [List.setIfInBounds_toArray]); (try simp only [List.set_cons_succ]); (try simp only [List.set_cons_zero])
        refine wpAnyH_take (i := 1) (v := ?_) (by simp only [List.getElem?_toArray, List.getElem?_cons_succ, List.getElem?_cons_zero]; rfl) (by kernel_rfl) (by kernel_rfl) (by kernel_rfl) (by exact fun _ _ _ h => h) (Or.inl ⟨by rfl, ?_⟩) (by assumption) ?_; rotate_left; focus (intro w hSw; (try dsimp only at hSw); first | (go_simp; done) | (go_simp; with_reducible rfl))
        (try simp only [Act.put]); (try simp only [List.setIfInBounds_toArray]); (try simp only [List.set_cons_succ]); (try simp only [List.set_cons_zero])
        refine wpAnyH_take (i := 2) (v := ?_) (by simp only [List.getElem?_toArray, List.getElem?_cons_succ, List.getElem?_cons_zero]; rfl) (by kernel_rfl) (by kernel_rfl) (by kernel_rfl) (by exact fun _ _ _ h => h) (Or.inl ⟨by rfl, ?_⟩) (by assumption) ?_; rotate_left; focus (intro w hSw; (try dsimp only at hSw); first | (go_simp; done) | (go_simp; with_reducible rfl))
        (try simp only [Act.put]); (try simp only [List.setIfInBounds_toArray]); (try simp only [List.set_cons_succ]); (try simp only [List.set_cons_zero])
        refine wpAnyH_take (i := 3) (v := ?_) (by simp only [List.getElem?_toArray, List.getElem?_cons_succ, List.getElem?_cons_zero]; rfl) (by kernel_rfl) (by kernel_rfl) (by kernel_rfl) (by exact fun _ _ _ h => h) (Or.inl ⟨by rfl, ?_⟩) (by assumption) ?_; rotate_left; focus (intro w hSw; (try dsimp only at hSw); first | (go_simp; done) | (go_simp; with_reducible rfl))
        (try simp only [Act.put]); (try simp only [List.setIfInBounds_toArray]); (try simp only [List.set_cons_succ]); (try simp only [List.set_cons_zero])
        refine wpAnyH_take (i := 4) (v := ?_) (by simp only [List.getElem?_toArray, List.getElem?_cons_succ, List.getElem?_cons_zero]; rfl) (by kernel_rfl) (by kernel_rfl) (by kernel_rfl) (by exact fun _ _ _ h => h) (Or.inl ⟨by rfl, ?_⟩) (by assumption) ?_; rotate_left; focus (intro w hSw; (try dsimp only at hSw); first | (go_simp; done) | (go_simp; with_reducible rfl))
        (try simp only [Act.put]); (try simp only [List.setIfInBounds_toArray]); (try simp only [List.set_cons_succ]); (try simp only [List.set_cons_zero])
        refine wpAnyH_take (i := 5) (v := ?_) (by simp only [List.getElem?_toArray, List.getElem?_cons_succ, List.getElem?_cons_zero]; rfl) (by kernel_rfl) (by kernel_rfl) (by kernel_rfl) (by exact fun _ _ _ h => h) (Or.inl ⟨by rfl, ?_⟩) (by assumption) ?_; rotate_left; focus (intro w hSw; (try dsimp only at hSw); first | (go_simp; done) | (go_simp; with_reducible rfl))
        (try simp only [Act.put]); (try simp only [List.setIfInBounds_toArray]); (try simp only [List.set_cons_succ]); (try simp only [List.set_cons_zero])
        refine wpAnyH_take (i := 6) (v := ?_) (by simp only [List.getElem?_toArray, List.getElem?_cons_succ, List.getElem?_cons_zero]; rfl) (by kernel_rfl) (by kernel_rfl) (by kernel_rfl) (by exact fun _ _ _ h => h) (Or.inl ⟨by rfl, ?_⟩) (by assumption) ?_; rotate_left; focus (intro w hSw; (try dsimp only at hSw); first | (go_simp; done) | (go_simp; with_reducible rfl))
        (try simp only [Act.put]); (try simp only [List.setIfInBounds_toArray]); (try simp only [List.set_cons_succ]); (try simp only [List.set_cons_zero])
        have hcap := HCAP.out (by omega)
        have hbd1 : (0 : Int) ≤ (p : Int) ∧ (p : Int) ≤ (p : Int) + (n : Int) + 1 := by omega
        have hbd2 : (0 : Int) ≤ (p : Int) + (n : Int) + 1 ∧ (p : Int) + (n : Int) + 1 ≤ (cl : Int) := by omega
        have hcp : ¬ cl = p := by omega
        have hcp2 : ¬ cl - p = 0 := by omega
        have htn : ((p : Int) + (n : Int) + 1).toNat = p + n + 1 := by omega
        have hsub : p + n + 1 - p = n + 1 := by omega
        refine wpAnyH_take (i := 7) (v := ?_) (by simp only [List.getElem?_toArray, List.getElem?_cons_succ, List.getElem?_cons_zero]; rfl) (by kernel_rfl) (by kernel_rfl) (by kernel_rfl) (by exact fun _ _ _ h => h) (Or.inl ⟨by rfl, ?_⟩) (by assumption) ?_; rotate_left; focus (intro w hSw; (try dsimp only at hSw); first | (go_simp; done) | (go_simp; with_reducible rfl) | (go_simp; rw [if_pos hbd2]; go_simp; rw [if_pos hbd1]; go_simp; done) | (go_simp; rw [if_pos hbd2]; go_simp; rw [if_pos hbd1]; go_simp; with_reducible rfl))
        (try simp only [Act.put]); (try simp only [List.setIfInBounds_toArray]); (try simp only [List.set_cons_succ]); (try simp only [List.set_cons_zero])
        refine wpAnyH_ready (rs := [8]) (by kernel_rfl) (by simp) ?_
        refine AllReadyH.cons rfl (fun K hK => ?_) AllReadyH.nil
        rw [if_pos (by rfl)]
        go_simp
        go_at_call 27
        refine HC.out.mono ?_
        rintro e x3 ⟨v, rfl, -, hb3⟩
        have HB3 := Lib.hid hb3
        clear hb3
        go_simp
        refine hK.out _ _ ⟨cell_onV C0.out HB3.out, cell_onV C1.out HB3.out, cell_onV C2.out HB3.out⟩ (fun hHeld => ?_)
        clear hK K
        (try simp only [Act.put]); (try simp only [List.setIfInBounds_toArray]); (try simp only [List.set_cons_succ]); (try simp only [List.set_cons_zero])
        refine wpAnyH_take (i := 9) (v := ?_) (by simp only [List.getElem?_toArray, List.getElem?_cons_succ, List.getElem?_cons_zero]; rfl) (by kernel_rfl) (by kernel_rfl) (by kernel_rfl) (by exact fun _ _ _ h => h) (Or.inl ⟨by rfl, ?_⟩) (by assumption) ?_; rotate_left; focus (intro w hSw; (try dsimp only at hSw); first | (go_simp; done) | (go_simp; with_reducible rfl))
        (try simp only [Act.put]); (try simp only [List.setIfInBounds_toArray]); (try simp only [List.set_cons_succ]); (try simp only [List.set_cons_zero])
        refine wpAnyH_take (i := 10) (v := ?_) (by simp only [List.getElem?_toArray, List.getElem?_cons_succ, List.getElem?_cons_zero]; rfl) (by kernel_rfl) (by kernel_rfl) (by kernel_rfl) (by exact fun _ _ _ h => h) (Or.inl ⟨by rfl, ?_⟩) (by assumption) ?_; rotate_left; focus (intro w hSw; (try dsimp only at hSw); first | (go_simp; done) | (go_simp; with_reducible rfl))
        (try simp only [Act.put]); (try simp only [List.setIfInBounds_toArray]); (try simp only [List.set_cons_succ]); (try simp only [List.set_cons_zero])
        refine wpAnyH_take (i := 11) (v := ?_) (by simp only [List.getElem?_toArray, List.getElem?_cons_succ, List.getElem?_cons_zero]; rfl) (by kernel_rfl) (by kernel_rfl) (by kernel_rfl) (by exact fun _ _ _ h => h) (Or.inl ⟨by rfl, ?_⟩) (by assumption) ?_; rotate_left; focus (intro w hSw; (try dsimp only at hSw); first | (go_simp; done) | (go_simp; with_reducible rfl))
        (try simp only [Act.put]); (try simp only [List.setIfInBounds_toArray]); (try simp only [List.set_cons_succ]); (try simp only [List.set_cons_zero])
        refine wpAnyH_take (i := 12) (v := ?_) (by simp only [List.getElem?_toArray, List.getElem?_cons_succ, List.getElem?_cons_zero]; rfl) (by kernel_rfl) (by kernel_rfl) (by kernel_rfl) (by exact fun _ _ _ h => h) (Or.inl ⟨by rfl, ?_⟩) (by assumption) ?_; rotate_left; focus (intro w hSw; (try dsimp only at hSw); first | (go_simp; done) | (go_simp; with_reducible rfl))
        (try simp only [Act.put]); (try simp only [List.setIfInBounds_toArray]); (try simp only [List.set_cons_succ]); (try simp only [List.set_cons_zero])
        refine wpAnyH_take (i := 13) (v := ?_) (by simp only [List.getElem?_toArray, List.getElem?_cons_succ, List.getElem?_cons_zero]; rfl) (by kernel_rfl) (by kernel_rfl) (by kernel_rfl) (by exact fun _ _ _ h => h) (Or.inl ⟨by rfl, ?_⟩) (by assumption) ?_; rotate_left; focus (intro w hSw; (try dsimp only at hSw); first | (go_simp; done) | (go_simp; with_reducible rfl))
        (try simp only [Act.put]); (try simp only [List.setIfInBounds_toArray]); (try simp only [List.set_cons_succ]); (try simp only [List.set_cons_zero])
        refine wpAnyH_done (by kernel_rfl) ?_ _
        have b3 := Lib.hid (b2.out.trans (HB3.out.mono b2.out.size))
        have HBI := Lib.hid (hb1.out.trans ((HD.out.trans (HB3.out.mono HD.out.size)).mono hb1.out.size))
        clear hHeld
        cases t with
        | true =>
          have EN := Lib.hid (show longN k r = longR (preB k r) (n + 1) (m - p - (n + 1)) by rw [E2.out, longR_yes HT.out, HMJ.out])
          go_wp2
          go_roundw
          case rel => exact ⟨n + 1, by omega, by omega, by go_num, EN, HBI⟩
          case measure => simp [intOf]; omega
        | false =>
          have HYN := Lib.hid (show longN k r = n by rw [E2.out, longR_no HT.out])
          have hb3 := Joins.below_alloc1 x3 (.cells #[.int .i64 (n : Int)] 3)
          have OW := own_below hO.out HBI.out
          have AL := Lib.hid (own_below OW hb3)
          have b9 := Lib.hid (b3.out.trans (hb3.mono b3.out.size))
          have HNW := Lib.hid (World.news_of_block (heap_alloc_new x3 (.cells #[.int .i64 (n : Int)] 3)))
          have hsz : w1.heap.size ≤ x3.heap.size + 1 := by have := b3.out.size; omega
          have hi := HI.out
          have OWNGE := Lib.hid (fun j (e : (Value.slice Au o.length cu).ownBlock = some j) => (own_ge AL.out e).1)
          have SN := Lib.hid (show prefF k m l = (o ++ [(n : Int)]) ++ prefF k m (l.drop (p + n)) by
            rw [hE.out, HRR.out]
            have hne : r ≠ [] := fun h => by have := HRL.out; rw [h] at this; simp at this; omega
            obtain ⟨f, hf⟩ : ∃ f, m = f + 1 := ⟨m - 1, by omega⟩
            have hdr : l.drop (p + n) = r.drop n := by rw [← HRR.out, List.drop_drop]
            rw [hdr, hf, prefF_go hne, HYN.out, List.append_assoc]
            congr 1
            show (n : Int) :: _ = (n : Int) :: _
            congr 1
            refine prefF_more H1.out (lens_drop HL2.out _) ?_ (by rw [List.length_drop, HRL.out]; omega) (by rw [List.length_drop, HRL.out]; omega)
            have h5 := HS2.out
            unfold shortB at h5 ⊢
            rw [List.all_eq_true] at h5 ⊢
            exact fun q hq => h5 q (List.mem_of_mem_drop hq))
          clear hb3 OW
          go_wp2_with (at_builtin; refine wpList_append_lies _ rfl _ _ _ rfl w1.heap.size 3 i0 _ 1 8 Try.underlying25 hi.1 hi.2.1 hi.2.2.1 hi.2.2.2 rfl (by omega) (.slice Au o.length cu) o.length (o.flatMap intCells) rfl AL.out ⟨x3.heap.size, 0, none⟩ 1 1 [.int .i64 (n : Int)] (by first | rfl | simp) rfl HNW.out (by simp [Value.oneCell']) (by omega) (by unfold maxLen; omega) (by omega) (by first | omega | (simp; omega)) _ rfl ?_; intro g4 cap4 w4 hown4 hgrow4 hor4 hlt4; have O4 := Lib.hid (show OwnInt w4 w1.heap.size (.slice (some ⟨g4, 0, none⟩) (o.length + 1) cap4) (o ++ [(n : Int)]) by unfold OwnInt OwnOf; rw [List.length_append, List.flatMap_append]; exact hown4); have B4 := Lib.hid (b9.out.grown hgrow4 b9.out.size (fun j e => OWNGE.out j e)); clear hown4 hgrow4 hor4 hlt4)
          go_roundw
          case rel => exact ⟨p + n, _, o ++ [(n : Int)], by omega, by simp; omega, rfl, by go_num, O4, SN, B4⟩
          case measure => simp [intOf]; omega
end Go.Proofs.Ytphagahhhfiiaaa
