
/- Lock chambers, the program's side: PrefixLockings: contract. -/
import Derived.Test.YtphagahhhfiiaaaLongImpl
namespace Go.Proofs.Ytphagahhhfiiaaa
open Go.RowKit
set_option maxRecDepth 100000

/-- The lockings that come, where a ship that is too long ends all. -/
theorem prefF_fits {k : ChamberD} (h1 : chamB k = true) : ∀ {f : Nat} {l : List Int}, lensB l = true → l.length ≤ f → shortB k l = true → prefF k l.length l = prefF k f l := fun h2 hf h3 => prefF_more h1 h2 h3 (Nat.le_refl _) hf
theorem shortB_drop {k : ChamberD} {l : List Int} {n : Nat} (h : shortB k l = true) : shortB k (l.drop n) = true := by
  unfold shortB at h ⊢
  rw [List.all_eq_true] at h ⊢
  exact fun y hy => h y (List.mem_of_mem_drop hy)
theorem shortB_take {k : ChamberD} {l : List Int} (h1 : chamB k = true) (h2 : lensB l = true) (h3 : shortB k (l.drop (longN k l)) = true) : shortB k l = true := by
  unfold shortB at h3 ⊢
  rw [List.all_eq_true] at h3 ⊢
  intro x hx
  rw [← List.take_append_drop (longN k l) l] at hx
  rcases List.mem_append.1 hx with h | h
  · by_cases h0 : longN k l = 0
    · rw [h0] at h; simp at h
    · have := packs_le (lens_pos (lens_take h2 _)) ((packO_isSome h1 (lens_take h2 _)).1 (longN_packs (k := k) (l := l) (by omega))) x h
      exact decide_eq_true this
  · exact h3 x h
set_option maxHeartbeats 8000000 in
theorem implPrefixLockings (k : ChamberD) (yl : Value) (l : List Int) (w : World) (rl : SlInt w yl l) :
    Calls Try.prog 18 #[k.val, yl] w fun e w' => NewInt (prefL k l) w e w' := by
  obtain ⟨W0, hW0⟩ : ∃ W0, W0 = (w.alloc (.cells #[.int .i64 k.length, .int .i64 k.lanes, .int .i64 k.minutes] 24)) := ⟨_, rfl⟩
  have B := Lib.hid (Joins.below_alloc1 w (.cells #[.int .i64 k.length, .int .i64 k.lanes, .int .i64 k.minutes] 24))
  have K := Lib.hid (Blk.new w #[.int .i64 k.length, .int .i64 k.lanes, .int .i64 k.minutes] 24)
  have HW0 := Lib.hid hW0
  rw [← hW0] at B K
  clear hW0
  have R := Lib.hid (SlOf.below rl B.out)
  obtain ⟨A1, c1, rfl⟩ := SlOf.form rl
  obtain ⟨b, hb⟩ : ∃ b, (chamB k && lensB l) = b := ⟨_, rfl⟩
  have HB := Lib.hid hb
  clear hb rl
  have c0 : W0.cell? ⟨w.heap.size, 0, none⟩ = some (.int .i64 k.length) := K.out.cell 0
  have c1' : W0.cell? ⟨w.heap.size, 1, none⟩ = some (.int .i64 k.lanes) := K.out.cell 1
  have c2 : W0.cell? ⟨w.heap.size, 2, none⟩ = some (.int .i64 k.minutes) := K.out.cell 2
  go_enter Try.func18, Try.ntmps18
  go_wp2_with fail
  rw [← HW0.out]
  clear c0 c1' c2
  refine (implCanPack k _ l _ R.out).mono ?_
  rw [HB.out]
  rintro e w1 ⟨rfl, hb⟩
  have B1 := Lib.hid (B.out.trans (hb.mono B.out.size))
  have K1 := Lib.hid (K.out.below hb)
  have R1 := Lib.hid (SlOf.below R.out hb)
  clear hb R B K
  cases b with
  | false =>
    have E := Lib.hid (show prefL k l = [] by
      unfold prefL fitsB
      rw [if_neg]
      intro h
      have h2 := HB.out
      simp only [Bool.and_eq_true] at h
      rw [h.1.1, h.1.2] at h2
      cases h2)
    go_wp2
    go_ret
    exact ⟨_, rfl, by rw [E.out]; exact World.ownsRow_nil _ _ _ _, B1.out⟩
  | true =>
    obtain ⟨h1, h2⟩ : chamB k = true ∧ lensB l = true := by have := HB.out; simpa using this
    have H1 := Lib.hid h1
    have E0 := Lib.hid (show prefL k l = if shortB k l = true then prefF k l.length l else [] by unfold prefL fitsB; rw [h1, h2]; simp)
    obtain ⟨i0, hi, hz0, hz1, hz2⟩ := info1_int
    have HI := Lib.hid (And.intro hi (And.intro hz0 (And.intro hz1 hz2)))
    have h8 := lensB_len h2
    obtain ⟨m, hm⟩ : ∃ m, l.length = m := ⟨_, rfl⟩
    have HM := Lib.hid hm
    rw [hm] at h8 R1
    try rw [hm]
    have Z1 := Lib.hid (show w1.heap.size ≤ w1.heap.size from Nat.le_refl _)
    have hw1 := B1.out.size
    have L2 := Lib.hid h2
    clear h1 h2 hm hi hz0 hz1 hz2
    go_wp2
    go_loopw [1, 5] (fun s q wr => ∃ (a : Option Addr) (c : Nat) (r : List Int) (u : Value) (o : List Int), s = .slice a r.length c ∧ r.length ≤ m ∧ q = u ∧ o.length + r.length ≤ m ∧ Hid (SlInt w1 (.slice a r.length c) r) ∧ Hid (lensB r = true) ∧ Hid (OwnInt wr w1.heap.size u o) ∧ Hid ((shortB k l = true → prefF k m l = o ++ prefF k m r) ∧ (shortB k l = true ↔ shortB k r = true)) ∧ Hid (Below w1.heap.size w1 wr)) (fun s _ _ => match s with | .slice _ n _ => n | _ => 0)
    case atStart => exact ⟨A1, c1, l, _, [], by rw [HM.out], by rw [HM.out]; exact Nat.le_refl _, rfl, by rw [HM.out]; simp, by rw [HM.out]; exact R1, L2, Lib.hid (World.ownsRow_nil _ _ _ _), Lib.hid ⟨fun _ => rfl, Iff.rfl⟩, Lib.hid (Below.refl _ _)⟩
    case round =>
      obtain ⟨a, c, r, u, o, rfl, hr, rfl, hor, hR, hL, hO, hS, hb⟩ := hrel
      have Br := Lib.hid (B1.out.trans (hb.out.mono B1.out.size))
      obtain ⟨Au, cu, rfl⟩ := own_form hO.out
      have hbs := hb.out.size
      obtain ⟨n, hn⟩ : ∃ n, r.length = n := ⟨_, rfl⟩
      have HN := Lib.hid hn
      rw [hn] at hr hor hR ⊢
      by_cases hn0 : 0 < n
      rotate_left
      · obtain rfl : n = 0 := by omega
        have hr0 : r = [] := List.eq_nil_of_length_eq_zero HN.out
        have E := Lib.hid (show prefL k l = o by
          have hs : shortB k l = true := hS.out.2.2 (by rw [hr0]; rfl)
          have h3 := hS.out.1 hs
          rw [E0.out, if_pos hs, HM.out, h3, hr0]
          have : prefF k m [] = [] := by cases m <;> rfl
          rw [this, List.append_nil])
        clear hn
        go_wp2
        go_ret
        exact ⟨_, rfl, by rw [E.out]; exact own_lo (base' := w.heap.size) hO.out hw1, Br.out⟩
      have hni : (0 : Int) < (n : Int) := by omega
      have RW := Lib.hid (SlOf.below hR.out hb.out)
      have RW2 : Hid (SlInt wr (.slice a n c) r) := RW
      have c0 : wr.cell? ⟨w.heap.size, 0, none⟩ = some (.int .i64 k.length) := (K1.out.below hb.out).cell 0
      have c1' : wr.cell? ⟨w.heap.size, 1, none⟩ = some (.int .i64 k.lanes) := (K1.out.below hb.out).cell 1
      have c2 : wr.cell? ⟨w.heap.size, 2, none⟩ = some (.int .i64 k.minutes) := (K1.out.below hb.out).cell 2
      clear hn
      go_wp2_with fail
      refine (implLongestPrefix k _ r wr RW2.out).mono ?_
      rintro e w2 ⟨rfl, hb2⟩
      have b2 := Lib.hid (hb.out.trans (hb2.mono hb.out.size))
      have O2 := Lib.hid (own_below hO.out hb2)
      have hpn : longN k r ≤ n := by rw [← HN.out]; exact longN_le k r
      obtain ⟨p, hp⟩ : ∃ p, longN k r = p := ⟨_, rfl⟩
      have HP := Lib.hid hp
      rw [hp] at hpn ⊢
      clear hb2 c0 c1' c2 hp
      by_cases hp0 : p = 0
      · subst hp0
        have E := Lib.hid (show prefL k l = [] by
          have hs : ¬ shortB k l = true := fun h => by
            have h3 := hS.out.2.1 h
            cases r with
            | nil => have := HN.out; simp at this; omega
            | cons x r =>
              have h4 := (longN_zero H1.out hL.out).1 HP.out
              unfold shortB at h3
              rw [List.all_eq_true] at h3
              have := of_decide_eq_true (h3 x (by simp))
              omega
          rw [E0.out, if_neg hs])
        go_wp2
        go_ret
        exact ⟨_, rfl, by rw [E.out]; exact World.ownsRow_nil _ _ _ _, B1.out.trans (b2.out.mono B1.out.size)⟩
      have hpz : ((p : Int) == 0) = false := by simp; omega
      have hb3 := Joins.below_alloc1 w2 (.cells #[.int .i64 (p : Int)] 3)
      have AL := Lib.hid (own_below O2.out hb3)
      have b3 := Lib.hid (b2.out.trans (hb3.mono b2.out.size))
      have HNW := Lib.hid (World.news_of_block (heap_alloc_new w2 (.cells #[.int .i64 (p : Int)] 3)))
      have hsz : w1.heap.size ≤ w2.heap.size + 1 := by have := b2.out.size; omega
      have hi := HI.out
      have hol : o.length ≤ 8 := by omega
      have OWNGE := Lib.hid (fun j (e : (Value.slice Au o.length cu).ownBlock = some j) => (own_ge AL.out e).1)
      have SN := Lib.hid (show (shortB k l = true → prefF k m l = (o ++ [(p : Int)]) ++ prefF k m (r.drop p)) ∧ (shortB k l = true ↔ shortB k (r.drop p) = true) by
        refine ⟨fun h => ?_, ?_⟩
        · have h3 := hS.out.2.1 h
          rw [hS.out.1 h]
          have hne : r ≠ [] := fun h => by rw [h] at HN; have := HN.out; simp at this; omega
          obtain ⟨f, hf⟩ : ∃ f, m = f + 1 := ⟨m - 1, by omega⟩
          rw [hf, prefF_go hne, HP.out, List.append_assoc]
          congr 1
          show (p : Int) :: _ = (p : Int) :: _
          congr 1
          exact prefF_more H1.out (lens_drop hL.out _) (shortB_drop h3) (by rw [List.length_drop, HN.out]; omega) (by rw [List.length_drop, HN.out]; omega)
        · rw [hS.out.2]
          constructor
          · exact fun h => shortB_drop h
          · intro h; rw [← HP.out] at h; exact shortB_take H1.out hL.out h)
      have LN := Lib.hid (lens_drop hL.out p)
      have hln : (r.drop p).length = n - p := by rw [List.length_drop, HN.out]
      have HLN := Lib.hid hln
      have hpc : p ≤ n := hpn
      have hcn : n ≤ c := by
        rcases hR.out.2 with ⟨he, _⟩ | ⟨_, _, _, e, _, hc, _⟩
        · rw [he] at HN; have := HN.out; simp at this; omega
        · injection e with _ _ e3; have := HN.out; omega
      clear hb3 hln
      rcases hR.out.2 with ⟨he, _⟩ | ⟨g, ob, c', e, _, _, _⟩
      · rw [he] at HN; have := HN.out; simp at this; omega
      injection e with ea e2 e3
      subst ea
      clear e2 e3
      have RD0 := SlOf.dropP (k := p) (l := r) (c := c) (g := g) (o := ob) (by rw [HN.out]; exact hR.out) (by rw [HN.out]; omega)
      rw [HN.out, Nat.mul_one, ← HLN.out] at RD0
      have RD := Lib.hid RD0
      clear RD0
      go_upto_region 9 with (at_builtin; refine wpList_append_lies _ rfl _ _ _ rfl w1.heap.size 3 i0 _ 1 8 Try.underlying25 hi.1 hi.2.1 hi.2.2.1 hi.2.2.2 rfl (by omega) (.slice Au o.length cu) o.length (o.flatMap intCells) rfl AL.out ⟨w2.heap.size, 0, none⟩ 1 1 [.int .i64 (p : Int)] (by first | rfl | simp) rfl HNW.out (by simp [Value.oneCell']) (by omega) (by unfold maxLen; omega) (by omega) (by first | omega | (simp; omega)) _ rfl ?_; intro g4 cap4 w4 hown4 hgrow4 hor4 hlt4; have O4 := Lib.hid (show OwnInt w4 w1.heap.size (.slice (some ⟨g4, 0, none⟩) (o.length + 1) cap4) (o ++ [(p : Int)]) by unfold OwnInt OwnOf; rw [List.length_append, List.flatMap_append]; exact hown4); have B4 := Lib.hid (b3.out.grown hgrow4 b3.out.size (fun j e => OWNGE.out j e)); clear hown4 hgrow4 hor4 hlt4)
      have hlo : (o ++ [(p : Int)]).length = o.length + 1 := by simp
      by_cases hcp : c = p
      · subst hcp
        obtain rfl : n = c := by omega
        have hre : r.drop n = [] := List.eq_nil_of_length_eq_zero (by rw [HLN.out]; omega)
        have RE := Lib.hid (show SlInt w1 (.slice (some ⟨g, ob, none⟩) (r.drop n).length (n - n)) (r.drop n) by rw [hre]; exact ⟨by simp, .inl ⟨rfl, _, _, rfl⟩⟩)
        clear hre
        go_wp2
        go_roundw
        case rel => exact ⟨_, _, r.drop n, _, o ++ [(n : Int)], by rw [HLN.out, Nat.sub_self], by rw [HLN.out]; omega, rfl, by rw [hlo, HLN.out]; omega, RE, LN, O4, SN, B4⟩
        case measure => show _ < _; omega
      · have hcp1 : c - p ≠ 0 := by omega
        have hcp2 : (c - p == 0) = false := by simp; omega
        go_wp2
        go_roundw
        case rel => exact ⟨_, _, r.drop p, _, o ++ [(p : Int)], by rw [HLN.out], by rw [HLN.out]; omega, rfl, by rw [hlo, HLN.out]; omega, RD, LN, O4, SN, B4⟩
        case measure => show n - p < n; omega
end Go.Proofs.Ytphagahhhfiiaaa
