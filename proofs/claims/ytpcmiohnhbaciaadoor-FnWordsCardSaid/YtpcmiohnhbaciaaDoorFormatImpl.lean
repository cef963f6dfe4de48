/- For every int, impl.FormatInt returns its decimal numeral: a contract, in a world where the library's table of powers of ten holds what its text lays. -/
import Derived.Test.YtpcmiohnhbaciaaDoorLaid
import Derived.Test.YtpcmiohnhbaciaaDoorFormat
import Derived.Test.YtpcmiohnhbaciaaDoorShelf
namespace Go.Proofs.YtpcmiohnhbaciaaDoor
open Go.RowKit

theorem implFormat (n : Int) (w : World) (h0 : -9223372036854775808 ≤ n) (h1 : n ≤ 9223372036854775807) (hp : PowIs w) :
    Calls Tryd.prog 8 #[.int .i64 n] w fun e w' => e = .returned (.string (numT n)) ∧ Below w.heap.size w w' := by
  have C := Lib.hid (Tryd.strconv_Itoa n h0 h1 w hp)
  clear hp
  go_enter Tryd.func8, Tryd.ntmps8
  go_wp2_with fail
  refine C.out.mono ?_
  rintro e w1 ⟨rfl, k, os, hw⟩
  have hb : Below w.heap.size w w1 := by rw [hw]; exact Lib.below_grow _ w (Nat.le_refl _) k os
  clear hw
  go_wp2
  go_ret
  exact ⟨rfl, hb⟩

end Go.Proofs.YtpcmiohnhbaciaaDoor
