
/- A drawn part and a drawn tide are valid: contracts. -/
import Derived.Test.YtgjappjlnkdpnaaDrawPick
import Derived.Test.YtgjappjlnkdpnaaBlk
import Derived.Test.YtgjappjlnkdpnaaTideOk
import Derived.Deep.AppendLies
import Derived.Deep.RegionLaw
namespace Go.Proofs.Ytgjappjlnkdpnaa
open Go.RowKit
set_option maxRecDepth 100000

/-- What a drawn part leaves. -/
def DrawsPart (p : Nat) (w : World) (e : Ending) (w' : World) : Prop := ∃ d : PartD, e = .returned d.val ∧ partB d = true ∧ Cursor w' p ∧ w.grownBy w' (some p)

theorem pers_ok (x : Int) (h : x ∈ ([744, 720, 1440, 372, 240] : List Int)) : perB x = true := by
  simp at h
  rcases h with rfl | rfl | rfl | rfl | rfl <;> decide

set_option maxHeartbeats 1000000 in
theorem l02Part_any (p : Nat) (w : World) (hcur : Cursor w p) : Calls Try.prog 112 #[.pointer (some ⟨p, 0, none⟩)] w (DrawsPart p w) := by
  have hb0 := Joins.below_alloc1 w (.cells #[.int .i64 0, .int .i64 0, .int .i64 0] 161)
  have C := Lib.hid (l01Below_any p 300 _ (by omega) (by omega) (hcur.below hb0))
  have hp := hcur.lt
  have G0 := Lib.hid (grown_alloc w (.cells #[.int .i64 0, .int .i64 0, .int .i64 0] 161) (some p))
  have K0 := Lib.hid (Blk.new w #[.int .i64 0, .int .i64 0, .int .i64 0] 161)
  have hnp : some w.heap.size ≠ some p := by simp; omega
  have HNP := Lib.hid hnp
  clear hcur hb0 hnp
  go_enter Try.func112, Try.ntmps112
  go_wp2_with fail
  refine C.out.mono ?_
  rintro e w1 ⟨x, rfl, x0, x1, hc1, hg1⟩
  have hs1 : w.heap.size + 1 ≤ w1.heap.size := by have := hg1.size; simpa using this
  have HC1 := Lib.hid hc1
  have G1 := Lib.hid (grown_trans G0.out hg1)
  have K1 := Lib.hid (K0.out.grown hg1 HNP.out)
  clear hc1 hg1 C
  have hal := Joins.below_alloc1 w1 (.cells #[.int .i64 744, .int .i64 720, .int .i64 1440, .int .i64 372, .int .i64 240] 3)
  go_wp2_with fail
  refine (l01Pick_any p w1.heap.size 0 5 [744, 720, 1440, 372, 240] _ (by decide) (by decide) (by have := HC1.out.lt; omega) ?_ (HC1.out.below hal)).mono ?_
  · intro j y hy
    rw [World.cell?_alloc_at _ _ _ _ rfl]
    match j, hy with
    | 0, hy => simp at hy; subst hy; rfl
    | 1, hy => simp at hy; subst hy; rfl
    | 2, hy => simp at hy; subst hy; rfl
    | 3, hy => simp at hy; subst hy; rfl
    | 4, hy => simp at hy; subst hy; rfl
  rintro e w2 ⟨y, rfl, hy, hc2, hg2⟩
  have hs2 : w1.heap.size + 1 ≤ w2.heap.size := by have := hg2.size; simpa using this
  have HC2 := Lib.hid hc2
  have G2 := Lib.hid (grown_trans G1.out (grown_trans (grown_alloc w1 _ _) hg2))
  have K2 := Lib.hid ((K1.out.below hal).grown hg2 HNP.out)
  have HP := Lib.hid (pers_ok y hy)
  obtain ⟨y0, y1, y2⟩ := perB_true HP.out
  have HY2 := Lib.hid y2
  clear hc2 hg2 hy hal y2
  have hal := Joins.below_alloc1 w2 (.cells #[.int .i64 x, .int .i64 y, .int .i64 0] 161)
  have G3 := Lib.hid (grown_trans G2.out (grown_alloc w2 (.cells #[.int .i64 x, .int .i64 y, .int .i64 0] 161) (some p)))
  have J3 := Lib.hid (Blk.new w2 #[.int .i64 x, .int .i64 y, .int .i64 0] 161)
  have K3 := Lib.hid (K2.out.below hal)
  go_wp2_with fail
  refine (l01Below_any p y _ (by omega) (by omega) (HC2.out.below hal)).mono ?_
  rintro e w3 ⟨z, rfl, z0, z1, hc3, hg3⟩
  have hs3 : w2.heap.size + 1 ≤ w3.heap.size := by have := hg3.size; simpa using this
  have hp2 : p < w2.heap.size := HC2.out.lt
  have HC3 := Lib.hid hc3
  have G4 := Lib.hid (grown_trans G3.out hg3)
  have hnp2 : some w2.heap.size ≠ some p := by simp; omega
  have J4 := Lib.hid (J3.out.grown hg3 hnp2)
  have K4 := Lib.hid (K3.out.grown hg3 HNP.out)
  have b0 : w3.cell? ⟨w2.heap.size, 0, none⟩ = some (.int .i64 x) := J4.out.cell 0
  have b1 : w3.cell? ⟨w2.heap.size, 1, none⟩ = some (.int .i64 y) := J4.out.cell 1
  have b2 : w3.cell? ⟨w2.heap.size, 2, none⟩ = some (.int .i64 0) := J4.out.cell 2
  have f2 : w3.frozen? ⟨w2.heap.size, 2, none⟩ = false := J4.out.free 2
  have k0 : w3.cell? ⟨w.heap.size, 0, none⟩ = some (.int .i64 0) := K4.out.cell 0
  have k1 : w3.cell? ⟨w.heap.size, 1, none⟩ = some (.int .i64 0) := K4.out.cell 1
  have k2 : w3.cell? ⟨w.heap.size, 2, none⟩ = some (.int .i64 0) := K4.out.cell 2
  have q0 : w3.frozen? ⟨w.heap.size, 0, none⟩ = false := K4.out.free 0
  have q1 : w3.frozen? ⟨w.heap.size, 1, none⟩ = false := K4.out.free 1
  have q2 : w3.frozen? ⟨w.heap.size, 2, none⟩ = false := K4.out.free 2
  have hlt2 : w.heap.size < w2.heap.size := by omega
  have hnn : w.heap.size ≠ w2.heap.size := by omega
  have hnn' : w2.heap.size ≠ w.heap.size := by omega
  clear hc3 hg3 hal hnp2
  go_wp2
  refine bodyPost_ret (v := .agg #[.int .i64 x, .int .i64 y, .int .i64 z]) (by simp [results, Try.results112, go_sem, *]) rfl ⟨⟨x, y, z⟩, rfl, ?_, ?_, ?_⟩
  · exact partB_mk ⟨x0, by show x ≤ 1000; omega, HP.out, z0, z1⟩
  · exact (((HC3.out.set hp2 2 (.int .i64 z)).set hp 0 (.int .i64 x)).set hp 1 (.int .i64 y)).set hp 2 (.int .i64 z)
  · exact grown_setNew (grown_setNew (grown_setNew (grown_setNew G4.out (by omega) _) (Nat.le_refl _) _) (Nat.le_refl _) _) (Nat.le_refl _) _

/-- What a drawn tide leaves: a valid tide over a new list. -/
def DrawsTide (p : Nat) (w : World) (e : Ending) (w' : World) : Prop := ∃ (m : Int) (v : Value) (l : List PartD), e = .returned (.agg #[.int .i64 m, v]) ∧ tideB m l = true ∧ OwnP w' w.heap.size v l ∧ Cursor w' p ∧ w.grownBy w' (some p)

/-- What holds at each round of l02Draw. -/
def Drawing (w : World) (p b2 b3 : Nat) (m : Int) (v : Value) (l : List PartD) (wr : World) : Prop :=
  Cursor wr p ∧ w.grownBy wr (some p) ∧ Blk wr b2 #[.int .i64 0, .slice none 0 0] 45 ∧ Blk wr b3 #[.int .i64 m, v] 45 ∧ OwnP wr (b3 + 1) v l ∧ (∀ x ∈ l, partB x = true) ∧ p < b2 ∧ b2 < b3 ∧ w.heap.size ≤ b2

theorem own_over {wr w3 : World} {p B : Nat} {v : Value} {l : List PartD} (h : OwnP wr (B + 1) v l) (hg : wr.drew.grownBy w3 (some p)) (hp : p < B) : OwnP w3 (B + 1) v l := by
  refine World.ownsRow.kept (w := wr.drew) h hg ?_
  cases hv : v.ownBlock with
  | none => exact .inl rfl
  | some g =>
    right
    intro e
    have h1 := (World.ownsRow.lt h g hv).1
    have h2 := Option.some.inj e
    omega

theorem Drawing.next {w wr w3 w4 : World} {p b2 b3 : Nat} {m : Int} {v : Value} {l : List PartD} {d : PartD} {g4 cap4 : Nat} (h : Drawing w p b2 b3 m v l wr) (hg3 : wr.drew.grownBy w3 (some p)) (hc3 : Cursor w3 p) (hd : partB d = true)
    (hown4 : w4.ownsRow (b3 + 1) 161 3 (.slice (some ⟨g4, 0, none⟩) (l.length + 1) cap4) (l.length + 1) (l.flatMap PartD.cells ++ d.cells)) (hgrow4 : (w3.alloc (.cells #[.int .i64 d.amp, .int .i64 d.per, .int .i64 d.pha] 161)).grownBy w4 v.ownBlock) :
    w4.cell? ⟨b3, 1, none⟩ = some v ∧ w4.frozen? ⟨b3, 1, none⟩ = false ∧ Drawing w p b2 b3 m (.slice (some ⟨g4, 0, none⟩) (l.length + 1) cap4) (l ++ [d]) (w4.setCell ⟨b3, 1, none⟩ (.slice (some ⟨g4, 0, none⟩) (l.length + 1) cap4)) := by
  obtain ⟨hc, hg, hk, hj, how, hall, h1, h2, h3⟩ := h
  have hrow : ∀ b, v.ownBlock = some b → b3 < b := fun b hb => by have := (World.ownsRow.lt how b hb).1; omega
  have n3 : some b3 ≠ v.ownBlock := fun e => Nat.lt_irrefl _ (hrow b3 e.symm)
  have n2 : some b2 ≠ v.ownBlock := fun e => by have := hrow b2 e.symm; omega
  have hal := Joins.below_alloc1 w3 (.cells #[.int .i64 d.amp, .int .i64 d.per, .int .i64 d.pha] 161)
  have J4 := ((hj.drew.grown hg3 (by simp; omega)).below hal).grown hgrow4 n3
  have K4 := ((hk.drew.grown hg3 (by simp; omega)).below hal).grown hgrow4 n2
  refine ⟨J4.cell 1, J4.free 1, ?_, ?_, K4.other (by omega) _ _, J4.set 1 _, ?_, ?_, h1, h2, h3⟩
  · exact (((hc3.below hal).grown hgrow4 (fun b hb => by have := hrow b hb; omega))).set (by omega) _ _
  · refine grown_setNew ?_ (by omega) _
    have e1 : w.grownBy w3 (some p) := grown_trans (a := w) (b := wr.drew) ⟨hg.os, hg.tape, hg.output, hg.size, hg.block⟩ hg3
    have e2 := grown_trans e1 (grown_of_below hal (some p))
    refine ⟨hgrow4.os.trans e2.os, hgrow4.tape.trans e2.tape, hgrow4.output.trans e2.output, Nat.le_trans e2.size hgrow4.size, fun i hi hne => (hgrow4.block i (Nat.lt_of_lt_of_le hi e2.size) ?_).trans (e2.block i hi hne)⟩
    intro e
    have := hrow i e.symm
    omega
  · refine set_under ?_ (by simp) _
    show World.ownsRow _ _ _ _ _ _ _
    have e : (l ++ [d]).flatMap PartD.cells = l.flatMap PartD.cells ++ d.cells := by simp
    rw [e]
    simpa using hown4
  · intro x hx
    rw [List.mem_append] at hx
    rcases hx with hx | hx
    · exact hall x hx
    · simp at hx; rw [hx]; exact hd

set_option maxHeartbeats 2000000 in
theorem l02Draw_any (p : Nat) (w : World) (hcur : Cursor w p) : Calls Try.prog 109 #[.pointer (some ⟨p, 0, none⟩)] w (DrawsTide p w) := by
  have hb0 := Joins.below_alloc1 w (.cells #[.int .i64 0, .slice none 0 0] 45)
  have C := Lib.hid (l01Below_any p 300 _ (by omega) (by omega) (hcur.below hb0))
  have hp := hcur.lt
  have G0 := Lib.hid (grown_alloc w (.cells #[.int .i64 0, .slice none 0 0] 45) (some p))
  have K0 := Lib.hid (Blk.new w #[.int .i64 0, .slice none 0 0] 45)
  have HNP := Lib.hid (show some w.heap.size ≠ some p by simp; omega)
  obtain ⟨i0, hi, hz0, hz1, hz2⟩ := info_parts info_part
  have HI := Lib.hid (And.intro hi (And.intro hz0 (And.intro hz1 hz2)))
  clear hcur hb0 hi hz0 hz1 hz2
  go_enter Try.func109, Try.ntmps109
  go_wp2_with fail
  refine C.out.mono ?_
  rintro e w1 ⟨m, rfl, m0, m1, hc1, hg1⟩
  have hs1 : w.heap.size + 1 ≤ w1.heap.size := by have := hg1.size; simpa using this
  have hal := Joins.below_alloc1 w1 (.cells #[.int .i64 m, .slice none 0 0] 45)
  have HC1 := Lib.hid (hc1.below hal)
  have G1 := Lib.hid (grown_trans (grown_trans G0.out hg1) (grown_alloc w1 (.cells #[.int .i64 m, .slice none 0 0] 45) (some p)))
  have K1 := Lib.hid ((K0.out.grown hg1 HNP.out).below hal)
  have J1 := Lib.hid (Blk.new w1 #[.int .i64 m, .slice none 0 0] 45)
  clear hc1 hg1 hal C
  go_wp2_with fail
  refine (l01Below_any p 2 _ (by omega) (by omega) HC1.out).mono ?_
  rintro e w2 ⟨n, rfl, n0, n1, hc2, hg2⟩
  have hst : Drawing w p w.heap.size w1.heap.size m (.slice none 0 0) [] w2 := by
    refine ⟨hc2, grown_trans G1.out hg2, K1.out.grown hg2 HNP.out, J1.out.grown hg2 (by simp; omega), ⟨rfl, .inl ⟨rfl, rfl⟩⟩, by simp, hp, by omega, Nat.le_refl _⟩
  have HST := Lib.hid hst
  clear hc2 hg2 hst
  go_wp2
  go_loopw [4] (fun i wr => ∃ (k : Nat) (v : Value) (l : List PartD), l.length + k ≤ 2 ∧ i = .int .i64 k ∧ Hid (Drawing w p w.heap.size w1.heap.size m v l wr)) (fun i _ => (intOf i).toNat)
  case atStart => exact ⟨(1 + n).toNat, _, [], by simp; omega, by simp; omega, HST⟩
  case round =>
    obtain ⟨k, v, l, hlk, rfl, hD⟩ := hrel
    by_cases hk : 0 < k
    · obtain ⟨dc, dg, dk, dj, dow, dall, _⟩ := hD.out
      have j1 : wr.cell? ⟨w1.heap.size, 1, none⟩ = some v := dj.cell 1
      have P := Lib.hid (l02Part_any p wr.drew dc.drew)
      have hpb : p < w1.heap.size := by omega
      have OW := Lib.hid dow
      have DJ := Lib.hid dj
      have hi := HI.out
      have HI' := Lib.hid hi
      rcases Joins.ownsRow_forms dow with ⟨rfl, hl0⟩ | ⟨g, cap, rfl⟩
      · clear dow dj dc dg dk dall hi hl0
        go_wp2
        go_region_law (first
          | (go_simp; go_at_call 112; refine P.out.mono ?_; rintro e w3 ⟨d, rfl, hd, hc3, hg3⟩; have ow3 := Lib.hid (own_over OW.out hg3 hpb); have j3 : w3.cell? ⟨w1.heap.size, 1, none⟩ = some (.slice none 0 0) := (DJ.out.drew.grown hg3 (by simp; omega)).cell 1; have hs3 : w1.heap.size + 1 ≤ w3.heap.size := Nat.le_trans DJ.out.lt hg3.size; have j4 : (w3.alloc (.cells #[.int .i64 d.amp, .int .i64 d.per, .int .i64 d.pha] 161)).cell? ⟨w1.heap.size, 1, none⟩ = some (.slice none 0 0) := (World.cell?_alloc_lt w3 _ ⟨w1.heap.size, 1, none⟩ hs3).trans j3; have HG3 := Lib.hid hg3; have HC3 := Lib.hid hc3; have HD3 := Lib.hid hd; clear hg3 hc3 hd)
          | (refine step_append_lies _ (by rfl) _ _ _ (by rfl) (w1.heap.size + 1) 161 i0 _ 3 24 Try.underlying43 HI'.out.1 HI'.out.2.1 HI'.out.2.2.1 HI'.out.2.2.2 rfl (by omega) (.slice none 0 0) l.length (l.flatMap PartD.cells) (by rfl) (World.ownsRow.alloc ow3.out _) ⟨w3.heap.size, 0, none⟩ 1 1 d.cells (by rfl) (by rfl) (World.news_of_block (heap_alloc_new w3 _)) (by simp [Value.oneCell']) (by omega) (by unfold maxLen; omega) (by omega) (by simp; omega) _ rfl ?_; intro g4 cap4 w4 hown4 hgrow4 _ _; obtain ⟨t1, t2, t3⟩ := hD.out.next HG3.out HC3.out HD3.out hown4 hgrow4; have T3 := Lib.hid t3; clear hown4 hgrow4 t3))
        all_goals
          go_wp2
          go_roundw
          case rel => exact ⟨k - 1, _, l ++ [d], by simp; omega, by go_num, T3⟩
          case measure => simp [intOf]; omega
      · clear dow dj dc dg dk dall hi
        go_wp2
        go_region_law (first
          | (go_simp; go_at_call 112; refine P.out.mono ?_; rintro e w3 ⟨d, rfl, hd, hc3, hg3⟩; have ow3 := Lib.hid (own_over OW.out hg3 hpb); have j3 : w3.cell? ⟨w1.heap.size, 1, none⟩ = some (.slice (some ⟨g, 0, none⟩) l.length cap) := (DJ.out.drew.grown hg3 (by simp; omega)).cell 1; have hs3 : w1.heap.size + 1 ≤ w3.heap.size := Nat.le_trans DJ.out.lt hg3.size; have j4 : (w3.alloc (.cells #[.int .i64 d.amp, .int .i64 d.per, .int .i64 d.pha] 161)).cell? ⟨w1.heap.size, 1, none⟩ = some (.slice (some ⟨g, 0, none⟩) l.length cap) := (World.cell?_alloc_lt w3 _ ⟨w1.heap.size, 1, none⟩ hs3).trans j3; have HG3 := Lib.hid hg3; have HC3 := Lib.hid hc3; have HD3 := Lib.hid hd; clear hg3 hc3 hd)
          | (refine step_append_lies _ (by rfl) _ _ _ (by rfl) (w1.heap.size + 1) 161 i0 _ 3 24 Try.underlying43 HI'.out.1 HI'.out.2.1 HI'.out.2.2.1 HI'.out.2.2.2 rfl (by omega) (.slice (some ⟨g, 0, none⟩) l.length cap) l.length (l.flatMap PartD.cells) (by rfl) (World.ownsRow.alloc ow3.out _) ⟨w3.heap.size, 0, none⟩ 1 1 d.cells (by rfl) (by rfl) (World.news_of_block (heap_alloc_new w3 _)) (by simp [Value.oneCell']) (by omega) (by unfold maxLen; omega) (by omega) (by simp; omega) _ rfl ?_; intro g4 cap4 w4 hown4 hgrow4 _ _; obtain ⟨t1, t2, t3⟩ := hD.out.next HG3.out HC3.out HD3.out hown4 hgrow4; have T3 := Lib.hid t3; clear hown4 hgrow4 t3))
        all_goals
          go_wp2
          go_roundw
          case rel => exact ⟨k - 1, _, l ++ [d], by simp; omega, by go_num, T3⟩
          case measure => simp [intOf]; omega
    · obtain ⟨dc, dg, dk, dj, dow, dall, _⟩ := hD.out
      obtain ⟨A, c, rfl⟩ := own_form dow
      have j0 : wr.cell? ⟨w1.heap.size, 0, none⟩ = some (.int .i64 m) := dj.cell 0
      have j1 : wr.cell? ⟨w1.heap.size, 1, none⟩ = some (.slice A l.length c) := dj.cell 1
      have k0 : wr.cell? ⟨w.heap.size, 0, none⟩ = some (.int .i64 0) := dk.cell 0
      have k1 : wr.cell? ⟨w.heap.size, 1, none⟩ = some (.slice none 0 0) := dk.cell 1
      have f0 : wr.frozen? ⟨w.heap.size, 0, none⟩ = false := dk.free 0
      have f1 : wr.frozen? ⟨w.heap.size, 1, none⟩ = false := dk.free 1
      have DOW := Lib.hid dow
      have DC := Lib.hid dc
      have DG := Lib.hid dg
      have TB := Lib.hid (tideB_mk (m := m) (l := l) ⟨by omega, by omega, by omega, dall⟩)
      clear dow dc dg dk dj dall hD
      go_wp2
      refine bodyPost_ret (v := .agg #[.int .i64 m, .slice A l.length c]) (by simp [results, Try.results109, go_sem, *]) rfl ⟨m, _, l, rfl, TB.out, ?_, ?_, ?_⟩
      · exact Joins.ownsRow_le (set_under (set_under DOW.out (by simp; omega) _) (by simp; omega) _) (by omega)
      · exact (DC.out.set hp 0 _).set hp 1 _
      · exact grown_setNew (grown_setNew DG.out (Nat.le_refl _) _) (Nat.le_refl _) _

/-- What MakeTide leaves. -/
def MadeTide (w : World) (e : Ending) (w' : World) : Prop := ∃ (m : Int) (v : Value) (l : List PartD), e = .returned (.agg #[.int .i64 m, v]) ∧ tideB m l = true ∧ SlP w' v l ∧ Below w.heap.size w w'

end Go.Proofs.Ytgjappjlnkdpnaa
