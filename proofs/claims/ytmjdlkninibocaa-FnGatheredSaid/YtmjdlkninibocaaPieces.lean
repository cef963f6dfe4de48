
/- Drawn pieces: a list of windows in any order: contract of spec.MakePieces. -/
import Derived.Test.YtmjdlkninibocaaDrawWin
namespace Go.Proofs.Ytmjdlkninibocaa
open Go.RowKit
set_option maxRecDepth 100000

/-- What MakePieces leaves. -/
def MadePieces (w : World) (e : Ending) (w' : World) : Prop := ∃ (A : Option Addr) (c : Nat) (l : List WindowD), e = .returned (.slice A l.length c) ∧ l.length ≤ 4 ∧ SlWindow w' (.slice A l.length c) l ∧ Below w.heap.size w w'

set_option maxHeartbeats 4000000 in
theorem makePieces_any (A : Option Addr) (n c : Nat) (w : World) (hcode : CodeAt w A n) : Calls Try.prog 6 #[.slice A n c] w (MadePieces w) := by
  have C := Lib.hid (l01New_any A n c w hcode)
  obtain ⟨i0, hin, hz0, hzs, hz2⟩ := info_parts info_window
  have HI := Lib.hid hin
  clear hcode hin
  go_enter Try.func6, Try.ntmps6
  go_wp2_with fail
  refine C.out.mono ?_
  rintro e w1 ⟨p, rfl, hp, hcur, hb1⟩
  have D0 := Lib.hid (DrawW.made hcur (grown_of_below (Below.refl _ _) _) hcur.lt)
  have B1 := Lib.hid hb1
  clear hcur hb1 C
  go_wp2_with fail
  refine (l01Below_any p 5 _ (by omega) (by omega) D0.out.1).mono ?_
  rintro e w2 ⟨n0, rfl, n1, n2, hc2, hg2⟩
  have D2 := Lib.hid (D0.out.step hg2 hc2)
  clear hc2 hg2 D0
  go_wp2
  go_loopw [4, 5] (fun o i wr => ∃ (k : Nat) (acc : List WindowD), acc.length + k ≤ 4 ∧ i = .int .i64 k ∧ Hid (DrawW w1 p o acc wr)) (fun _ i _ => (intOf i).toNat)
  case atStart => exact ⟨n0.toNat, [], by simp; omega, by simp; omega, D2⟩
  case round =>
    clear D2
    obtain ⟨k, acc, hlk, rfl, hD⟩ := hrel
    by_cases hk : 0 < k
    · go_wp2_with fail
      refine (l01Below_any p 900 _ (by omega) (by omega) hD.out.1).mono ?_
      rintro e w3 ⟨a, rfl, a0, a1, hc3, hg3⟩
      have D3 := Lib.hid (hD.out.step hg3 hc3)
      clear hc3 hg3 hD
      go_wp2_with fail
      refine (l01Below_any p 300 _ (by omega) (by omega) D3.out.1).mono ?_
      rintro e w4 ⟨d, rfl, d0, d1, hc4, hg4⟩
      have D4 := Lib.hid (D3.out.step hg4 hc4)
      clear hc4 hg4 D3
      have hw1 : IntKind.i64.wrap (a + d) = a + d := by rw [IntKind.wrap_i64]; omega
      have hw2 : IntKind.i64.wrap (a + d - 20) = a + d - 20 := by rw [IntKind.wrap_i64]; omega
      have D5 := Lib.hid (D4.out.below (Joins.below_alloc1 w4 (.cells #[.int .i64 a, .int .i64 (a + d - 20)] 36)))
      have HN := Lib.hid (World.news_of_block (heap_alloc_new w4 (.cells #[.int .i64 a, .int .i64 (a + d - 20)] 36)))
      have hs4 := D4.out.size
      go_wp2_with (at_builtin; refine wpList_append_lies _ rfl _ _ _ rfl w1.heap.size 36 i0 _ 2 16 Try.underlying23 HI.out hz0 (by assumption) hz2 rfl (by omega) u4 acc.length (acc.flatMap WindowD.cells) rfl D5.out.2.2.1 ⟨w4.heap.size, 0, none⟩ 1 1 (WindowD.cells ⟨a, a + d - 20⟩) (by first | rfl | simp) rfl (by simpa using HN.out) (window_one _) (by omega) (by unfold maxLen; omega) (by omega) (by simp; omega) _ rfl ?_; intro g4 cap4 w5 hown4 hgrow4 hor4 hlt4; have D6 := Lib.hid (D5.out.next hown4 hgrow4); clear hown4 hgrow4 hor4 hlt4)
      go_roundw
      case rel => exact ⟨k - 1, acc ++ [⟨a, a + d - 20⟩], by simp; omega, by go_num, D6⟩
      case measure => simp [intOf]; omega
    · have hl : acc.length ≤ 4 := by omega
      have B2 := below_of_grown B1.out hD.out.2.1 B1.out.size hp
      have SL := OwnWindow.sl hD.out.2.2.1 (by omega)
      obtain ⟨A2, c2, rfl⟩ := own_form hD.out.2.2.1
      have HB := Lib.hid B2
      have HS := Lib.hid SL
      clear B2 SL hD
      go_wp2
      go_ret
      exact ⟨A2, c2, acc, rfl, hl, HS.out, HB.out⟩
end Go.Proofs.Ytmjdlkninibocaa
