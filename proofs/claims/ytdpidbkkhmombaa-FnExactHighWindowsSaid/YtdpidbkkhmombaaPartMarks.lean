
/- The marks of a tide's parts: laws.markPartS, laws.heldPartS: contracts (by gen_struct.py). -/
import Derived.Test.YtdpidbkkhmombaaParts
import Derived.Test.YtdpidbkkhmombaaFlat
import Derived.StillTailTactics
namespace Go.Proofs.Ytdpidbkkhmombaa
open Go.ChangeShapes Go.WideShapes Go.ChangeAt Go.Deep Go.RowKit
set_option maxRecDepth 100000

set_option maxHeartbeats 1000000 in
theorem markPartS_any (v : Value) (l : List PartD) (k : Int) (w : World) (h : SlP w v l) (hfz : ∀ g, v.ownBlock = some g → ∀ j, w.frozen? ⟨g, j, none⟩ = false) (h0 : 0 ≤ k) (h1 : k ≤ 100000000) (h2 : l.length ≤ 10000000) :
    Calls Try.prog 109 #[v, .int .i64 k] w fun e w' => e = .returned (.int .i64 (k + (l.length : Int) * 3)) ∧ Marked w' v (l.length * 3) k ∧ w.grownBy w' v.ownBlock := by
  obtain ⟨hl, h⟩ := h
  rcases h with ⟨rfl, A, c, rfl⟩ | ⟨g, o, c, rfl, hp, hcap, hc⟩
  · go_enter Try.func109, Try.ntmps109
    go_wp2
    refine wp_loop_rounds 1 ?_
    rw [rounds_succ]
    go_wp2
    go_ret
    exact ⟨ret_int (by simp), .inl (by simp), World.grownBy.refl _ _⟩
  · have hs : MarkRow w g o (l.length * 3) k (0 * 3) w := MarkRow.start (ints_of (fun x : PartD => [x.amp, x.per, x.pha]) (fun x => rfl) (by omega) partLen hc) (fun j => hfz g rfl j)
    have HS := Lib.hid hs
    clear hs hc hfz
    go_enter Try.func109, Try.ntmps109
    go_wp2
    go_loopw [1, 5] (fun q i wr => ∃ j : Nat, j ≤ l.length ∧ i = .int .i64 j ∧ q = .int .i64 (k + (j : Int) * 3) ∧ Hid (MarkRow w g o (l.length * 3) k (j * 3) wr)) (fun _ i _ => l.length - (intOf i).toNat)
    case atStart => exact ⟨0, Nat.zero_le _, rfl, by simp, HS⟩
    case round =>
      obtain ⟨j, hj, rfl, rfl, hM⟩ := hrel
      by_cases hlt : j < l.length
      · have fz := hM.out.2.2.2
        obtain ⟨x0, c0⟩ := hM.out.read (j * 3 + 0) (by omega) (by omega) (o + j * 3) (by omega)
        have f0 := fz (o + j * 3)
        have M0 := hM.out.next' (by omega) (o + j * 3) (by omega) (k + (j : Int) * 3) (by omega) (j * 3 + 1) rfl
        obtain ⟨x1, c1⟩ := hM.out.read (j * 3 + 1) (by omega) (by omega) (o + j * 3 + 1) (by omega)
        have f1 := fz (o + j * 3 + 1)
        have M1 := M0.next' (by omega) (o + j * 3 + 1) (by omega) (k + (j : Int) * 3 + 1) (by omega) (j * 3 + 2) rfl
        obtain ⟨x2, c2⟩ := hM.out.read (j * 3 + 2) (by omega) (by omega) (o + j * 3 + 2) (by omega)
        have f2 := fz (o + j * 3 + 2)
        have M2 := M1.next' (by omega) (o + j * 3 + 2) (by omega) (k + (j : Int) * 3 + 1 + 1) (by omega) (j * 3 + 3) rfl
        have HM := Lib.hid M2
        clear fz M0 M1 M2
        go_wp2
        go_roundw
        case rel =>
          refine ⟨j + 1, by omega, by go_num, ?_, ?_⟩
          · congr 1; omega
          · rw [show (j + 1) * 3 = j * 3 + 3 by omega]; exact HM
        case measure => simp [intOf]; omega
      · go_wp2
        go_ret
        obtain rfl : j = l.length := by omega
        exact ⟨rfl, .inr ⟨g, o, l.length, c, rfl, hM.out.2.1⟩, hM.out.1⟩

end Go.Proofs.Ytdpidbkkhmombaa
