/- What the listed package-level variables of the library hold at a call, that a call keeps it, and one world in which they hold it. -/
import Derived.Test.YtpcmiohnhbaciaaDoorRows
import Derived.Test.YtpcmiohnhbaciaaDoorText
import Derived.Lib.LaidTab
import Derived.Lib.ItoaNum
import Derived.Lib.SmallJoins
import Derived.Lib.AppendIntMem
import Derived.Stop.LaidErr
import Derived.LaidLaws
namespace Go.Proofs.YtpcmiohnhbaciaaDoor
open Go.RowKit

theorem gPow : Tryd.prog.globalNamed "internal/strconv.uint64pow10" = some 2 := by kernel_rfl
theorem gPowType : (Tryd.prog.globals[2]?).map (·.type) = some 84 := by kernel_rfl
theorem cellsPow : Tryd.prog.cellsOf 84 = 20 := by kernel_rfl
theorem cellsU64 : Tryd.prog.cellsOf 65 = 1 := by kernel_rfl
theorem powData : (Rows.laid_internal_strconv_uint64pow10 : DataW Unit) = Lib.tabData .u64 Lib.pow10Tab := by kernel_rfl

/-- The table of the powers of ten. -/
def PowIs (w : World) : Prop := Lib.TabIs Tryd.prog w "internal/strconv.uint64pow10" .u64 Lib.pow10Tab
theorem PowIs.below {w w' : World} (h : PowIs w) (hb : Below w.heap.size w w') : PowIs w' := Joins.var_stays gPow h hb (Nat.le_refl _)
theorem PowIs.of_laid {w : World} {a b : String × DataW Unit} {r : List (String × DataW Unit)} (h : laidMet Tryd.prog (a :: b :: ("internal/strconv.uint64pow10", Rows.laid_internal_strconv_uint64pow10) :: r) w) : PowIs w := by
  have h1 := laidMet.tail (laidMet.tail h)
  rw [powData] at h1
  exact Lib.tabIs_of_head gPow gPowType Tryd.underlying84 Tryd.underlying65 cellsU64 cellsPow h1

/-- The values of a list of plain numbers. -/
def litVals : DataW Unit → Array Value
  | .agg ds => (ds.map fun | .lit (.int k n) => Value.int k n | _ => undef).toArray
  | _ => #[]
def putAt (h : Array Obj) (g : Nat) (cs : Array Value) : Array Obj := h.modify g fun
  | .cells _ t frozen => .cells cs t frozen
  | o => o

end Go.Proofs.YtpcmiohnhbaciaaDoor
