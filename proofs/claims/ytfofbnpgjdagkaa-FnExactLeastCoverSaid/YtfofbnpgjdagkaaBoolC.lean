
/- Lists of bools: what they lie as. -/
import Derived.Test.YtfofbnpgjdagkaaRows2
import Derived.Test.YtfofbnpgjdagkaaChecked
namespace Go.Proofs.Ytfofbnpgjdagkaa
open Go.RowKit
set_option maxRecDepth 100000

@[reducible] def boolCells (b : Bool) : List Value := [.bool b]
theorem boolLen (b : Bool) : (boolCells b).length = 1 := rfl
theorem bool_one (x : Bool) : ∀ v ∈ boolCells x, v.oneCell' = true := fun v hv => by simp at hv; rw [hv]; rfl
def SlBool : World → Value → List Bool → Prop := SlOf 1 boolCells
theorem info_bool : (Try.prog.info? 4).map (fun i => (i.zero, i.size, i.bytes)) = some (some (.bool false), 1, 1) := by kernel_rfl
end Go.Proofs.Ytfofbnpgjdagkaa
