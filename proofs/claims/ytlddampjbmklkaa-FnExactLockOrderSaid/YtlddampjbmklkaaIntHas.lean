
/- spec.l05Has: a list of ints has one: contract. -/
import Derived.Test.YtlddampjbmklkaaInts
import Derived.Test.YtlddampjbmklkaaFirst
import Derived.Test.YtlddampjbmklkaaText
namespace Go.Proofs.Ytlddampjbmklkaa
open Go.RowKit
set_option maxRecDepth 100000

set_option maxHeartbeats 1000000 in
theorem specHas (v : Value) (l : List Int) (t : Int) (w : World) (h : SlInt w v l) :
    Calls Try.prog 63 #[v, .int .i64 t] w fun e w' => e = .returned (.bool (l.any (· == t))) ∧ w = w' := by
  obtain ⟨hl, h⟩ := h
  rcases h with ⟨rfl, A, c, rfl⟩ | ⟨g, o, c, rfl, hp, hcap, hc⟩
  · go_enter Try.func63, Try.ntmps63
    go_wp2
    refine wp_loop_rounds 1 ?_
    rw [rounds_succ]
    go_wp2
    go_ret
    exact ⟨rfl, rfl⟩
  · have HC := Lib.hid hc
    clear hc
    go_enter Try.func63, Try.ntmps63
    go_wp2
    go_loop [9] (fun i => ∃ k : Nat, k ≤ l.length ∧ i = .int .i64 k ∧ Hid (NoOne (· == t) l k)) (fun i => l.length - (intOf i).toNat)
    case atStart => exact ⟨0, Nat.zero_le _, rfl, Lib.hid (NoOne.zero _ _)⟩
    case round =>
      obtain ⟨k, hk, rfl, hN⟩ := hrel
      by_cases hlt : k < l.length
      · obtain ⟨x, hx⟩ : ∃ x, l[k]? = some x := ⟨_, List.getElem?_eq_getElem hlt⟩
        have q0 := SlInt.cells HC.out k x hx
        have HX := Lib.hid hx
        clear hx
        cases he : (x == t) with
        | true =>
          have E := Lib.hid (show l.any (· == t) = true from List.any_eq_true.2 ⟨x, List.mem_of_getElem? HX.out, he⟩)
          go_wp2
          go_ret
          exact ⟨ret_bool E.out.symm, rfl⟩
        | false =>
          have N2 := Lib.hid (hN.out.next HX.out he)
          go_wp2
          go_round
          case rel => exact ⟨k + 1, by omega, by go_num, N2⟩
          case measure => simp [intOf]; omega
      · obtain rfl : k = l.length := by omega
        have E := Lib.hid (show l.any (· == t) = false from List.any_eq_false.2 fun x hx => by
          obtain ⟨j, hj⟩ := List.getElem?_of_mem hx
          have h := hN.out j (List.getElem?_eq_some_iff.1 hj).1 x hj
          simpa using h)
        go_wp2
        go_ret
        exact ⟨ret_bool E.out.symm, rfl⟩
end Go.Proofs.Ytlddampjbmklkaa
