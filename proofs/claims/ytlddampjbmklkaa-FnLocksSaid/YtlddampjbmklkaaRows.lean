/-
  No cell of these rows narrows 'for every input' (looked for: loops, veiled, ifaces, maps, wideKeys, modest, calm, conditions, laid).
  DERIVED. THE GIVEN ROWS OF THIS SEAT. 7 by the template 'for every input the law returns true; each argument reads behind the call as it read before'; 0 by the template 'total and deterministic' (their statements: YtlddampjbmklkaaTotals.lean).
  GIVEN WITH THE SEED: the statements are not yours to turn. If you find one false, say at which input.
  Laid BY PROGRAM, IN A SANDBOX (cutbox-rows.mjs): the forced cells as the released guide's own fill.sh prints them over the translation 527249c08572a515… (all of the seat's roots in one cut). By AI agents, Wed Nov 11 2026. No macro, syntax, notation, axiom, sorry.
-/
import Derived.Test.YtlddampjbmklkaaChecked
import GoSem.Claim
import GoSem.ClaimJoined
import GoSem.ClaimMapViews
import Derived.JoinedTies
import Derived.KernelRfl
namespace Go.Proofs.Ytlddampjbmklkaa
/- THE CELL 'sum', in the pinned program and in every row, IS THE sha256 OF THE DUMP (.gsa) THAT YtlddampjbmklkaaProg.lean LOADS. Nothing in Lean hashes anything: it is a label: what it is worth is what the hold of that sum in a sandbox is worth. -/
noncomputable def Try.pinned : Pinned := { name := "ytlddampjbmklkaa", sum := "527249c08572a515e032bfabb90279d651a13b4990a7e03cb36da08e484156c3", checked := Try.checked }
namespace Rows
def none {H : Type} : Left H := { results := [], args := [] }

/-- 'laws.FnLocks': WHATEVER THE INPUT: true; the input reads as it did. -/
def fnLocksSpec : ChangeSpec := { name := "fnLocks", fn := fun _ => fun
  | [d] => { results := [.lit (.bool true)], args := [d] }
  | _ => none }
def fnLocksRow : OpenClaim := { program := "ytlddampjbmklkaa", sum := "527249c08572a515e032bfabb90279d651a13b4990a7e03cb36da08e484156c3", func := "loop.example/g00831/laws.FnLocks", spec := "fnLocks", unfollowed := true, recurses := true, apart := false }
def FnLocksSaid : Prop := fnLocksRow.holds Try.pinned (OpenSpec.ofChange fnLocksSpec)

/-- ITS FALSE NEIGHBOUR: 'it returns false'. Refute it at one input. -/
def fnLocksWrong : ChangeSpec := { name := "fnLocks", fn := fun _ => fun
  | [d] => { results := [.lit (.bool false)], args := [d] }
  | _ => none }
def FnLocksWrongFalsely : Prop := fnLocksRow.holds Try.pinned (OpenSpec.ofChange fnLocksWrong)

/-- 'laws.FnExactLockPlanOk': WHATEVER THE INPUT: true; the input reads as it did. -/
def fnExactLockPlanOkSpec : ChangeSpec := { name := "fnExactLockPlanOk", fn := fun _ => fun
  | [d1, d2, d3] => { results := [.lit (.bool true)], args := [d1, d2, d3] }
  | _ => none }
def fnExactLockPlanOkRow : OpenClaim := { program := "ytlddampjbmklkaa", sum := "527249c08572a515e032bfabb90279d651a13b4990a7e03cb36da08e484156c3", func := "loop.example/g00831/laws.FnExactLockPlanOk", spec := "fnExactLockPlanOk", unfollowed := true, recurses := true, apart := false }
def FnExactLockPlanOkSaid : Prop := fnExactLockPlanOkRow.holds Try.pinned (OpenSpec.ofChange fnExactLockPlanOkSpec)

/-- ITS FALSE NEIGHBOUR: 'it returns false'. Refute it at one input. -/
def fnExactLockPlanOkWrong : ChangeSpec := { name := "fnExactLockPlanOk", fn := fun _ => fun
  | [d1, d2, d3] => { results := [.lit (.bool false)], args := [d1, d2, d3] }
  | _ => none }
def FnExactLockPlanOkWrongFalsely : Prop := fnExactLockPlanOkRow.holds Try.pinned (OpenSpec.ofChange fnExactLockPlanOkWrong)

/-- 'laws.FnExactLockedAt': WHATEVER THE INPUT: true; the input reads as it did. -/
def fnExactLockedAtSpec : ChangeSpec := { name := "fnExactLockedAt", fn := fun _ => fun
  | [d1, d2, d3] => { results := [.lit (.bool true)], args := [d1, d2, d3] }
  | _ => none }
def fnExactLockedAtRow : OpenClaim := { program := "ytlddampjbmklkaa", sum := "527249c08572a515e032bfabb90279d651a13b4990a7e03cb36da08e484156c3", func := "loop.example/g00831/laws.FnExactLockedAt", spec := "fnExactLockedAt", apart := false }
def FnExactLockedAtSaid : Prop := fnExactLockedAtRow.holds Try.pinned (OpenSpec.ofChange fnExactLockedAtSpec)

/-- ITS FALSE NEIGHBOUR: 'it returns false'. Refute it at one input. -/
def fnExactLockedAtWrong : ChangeSpec := { name := "fnExactLockedAt", fn := fun _ => fun
  | [d1, d2, d3] => { results := [.lit (.bool false)], args := [d1, d2, d3] }
  | _ => none }
def FnExactLockedAtWrongFalsely : Prop := fnExactLockedAtRow.holds Try.pinned (OpenSpec.ofChange fnExactLockedAtWrong)

/-- 'laws.FnExactLockOrder': WHATEVER THE INPUT: true; the input reads as it did. -/
def fnExactLockOrderSpec : ChangeSpec := { name := "fnExactLockOrder", fn := fun _ => fun
  | [d1, d2] => { results := [.lit (.bool true)], args := [d1, d2] }
  | _ => none }
def fnExactLockOrderRow : OpenClaim := { program := "ytlddampjbmklkaa", sum := "527249c08572a515e032bfabb90279d651a13b4990a7e03cb36da08e484156c3", func := "loop.example/g00831/laws.FnExactLockOrder", spec := "fnExactLockOrder", apart := false }
def FnExactLockOrderSaid : Prop := fnExactLockOrderRow.holds Try.pinned (OpenSpec.ofChange fnExactLockOrderSpec)

/-- ITS FALSE NEIGHBOUR: 'it returns false'. Refute it at one input. -/
def fnExactLockOrderWrong : ChangeSpec := { name := "fnExactLockOrder", fn := fun _ => fun
  | [d1, d2] => { results := [.lit (.bool false)], args := [d1, d2] }
  | _ => none }
def FnExactLockOrderWrongFalsely : Prop := fnExactLockOrderRow.holds Try.pinned (OpenSpec.ofChange fnExactLockOrderWrong)

/-- 'laws.FnExactNextTurn': WHATEVER THE INPUT: true; the input reads as it did. -/
def fnExactNextTurnSpec : ChangeSpec := { name := "fnExactNextTurn", fn := fun _ => fun
  | [d1, d2, d3, d4] => { results := [.lit (.bool true)], args := [d1, d2, d3, d4] }
  | _ => none }
def fnExactNextTurnRow : OpenClaim := { program := "ytlddampjbmklkaa", sum := "527249c08572a515e032bfabb90279d651a13b4990a7e03cb36da08e484156c3", func := "loop.example/g00831/laws.FnExactNextTurn", spec := "fnExactNextTurn", apart := false }
def FnExactNextTurnSaid : Prop := fnExactNextTurnRow.holds Try.pinned (OpenSpec.ofChange fnExactNextTurnSpec)

/-- ITS FALSE NEIGHBOUR: 'it returns false'. Refute it at one input. -/
def fnExactNextTurnWrong : ChangeSpec := { name := "fnExactNextTurn", fn := fun _ => fun
  | [d1, d2, d3, d4] => { results := [.lit (.bool false)], args := [d1, d2, d3, d4] }
  | _ => none }
def FnExactNextTurnWrongFalsely : Prop := fnExactNextTurnRow.holds Try.pinned (OpenSpec.ofChange fnExactNextTurnWrong)

/-- 'laws.FnExactAppendLocking': WHATEVER THE INPUT: true; the input reads as it did. -/
def fnExactAppendLockingSpec : ChangeSpec := { name := "fnExactAppendLocking", fn := fun _ => fun
  | [d1, d2, d3, d4, d5, d6] => { results := [.lit (.bool true)], args := [d1, d2, d3, d4, d5, d6] }
  | _ => none }
def fnExactAppendLockingRow : OpenClaim := { program := "ytlddampjbmklkaa", sum := "527249c08572a515e032bfabb90279d651a13b4990a7e03cb36da08e484156c3", func := "loop.example/g00831/laws.FnExactAppendLocking", spec := "fnExactAppendLocking", unfollowed := true, recurses := true, apart := false }
def FnExactAppendLockingSaid : Prop := fnExactAppendLockingRow.holds Try.pinned (OpenSpec.ofChange fnExactAppendLockingSpec)

/-- ITS FALSE NEIGHBOUR: 'it returns false'. Refute it at one input. -/
def fnExactAppendLockingWrong : ChangeSpec := { name := "fnExactAppendLocking", fn := fun _ => fun
  | [d1, d2, d3, d4, d5, d6] => { results := [.lit (.bool false)], args := [d1, d2, d3, d4, d5, d6] }
  | _ => none }
def FnExactAppendLockingWrongFalsely : Prop := fnExactAppendLockingRow.holds Try.pinned (OpenSpec.ofChange fnExactAppendLockingWrong)

/-- 'laws.FnExactEmptyLockings': WHATEVER THE INPUT: true; the input reads as it did. -/
def fnExactEmptyLockingsSpec : ChangeSpec := { name := "fnExactEmptyLockings", fn := fun _ => fun
  | [d] => { results := [.lit (.bool true)], args := [d] }
  | _ => none }
def fnExactEmptyLockingsRow : OpenClaim := { program := "ytlddampjbmklkaa", sum := "527249c08572a515e032bfabb90279d651a13b4990a7e03cb36da08e484156c3", func := "loop.example/g00831/laws.FnExactEmptyLockings", spec := "fnExactEmptyLockings", unfollowed := true, recurses := true, apart := false }
def FnExactEmptyLockingsSaid : Prop := fnExactEmptyLockingsRow.holds Try.pinned (OpenSpec.ofChange fnExactEmptyLockingsSpec)

/-- ITS FALSE NEIGHBOUR: 'it returns false'. Refute it at one input. -/
def fnExactEmptyLockingsWrong : ChangeSpec := { name := "fnExactEmptyLockings", fn := fun _ => fun
  | [d] => { results := [.lit (.bool false)], args := [d] }
  | _ => none }
def FnExactEmptyLockingsWrongFalsely : Prop := fnExactEmptyLockingsRow.holds Try.pinned (OpenSpec.ofChange fnExactEmptyLockingsWrong)

/- THE SECOND FORM. 'bulk': how many values and letters a reading holds, each counted each time it is reached (what is shared counts as often as it is met; a slice's spare places count too). A statement '..UptoSaid' is the law's where the arguments, and the package variables that the reading takes, are together of bulk at most 1048576: NARROWER than '..Said'. Prove '..Said' where nothing that the law and all that it calls make is longer than what came in: it says more and counts as full. Else prove '..UptoSaid'. A law counts once. -/
mutual
def uptoBulk {H : Type} : DataW H → Nat
  | .lit (.string bytes) => bytes.length + 1
  | .lit _ => 1
  | .nil => 1
  | .ptr d => uptoBulk d + 1
  | .slice elems spare => uptoBulkAll elems + uptoBulkAll spare + 1
  | .agg parts => uptoBulkAll parts + 1
  | .iface _ d => uptoBulk d + 1
  | .map entries => uptoBulkEntries entries + 1
  | .held _ => 1
def uptoBulkAll {H : Type} : List (DataW H) → Nat
  | [] => 0
  | d :: r => uptoBulk d + uptoBulkAll r
def uptoBulkEntries {H : Type} : List (Lit × DataW H) → Nat
  | [] => 0
  | x :: r => uptoBulkEntry x + uptoBulkEntries r
def uptoBulkEntry {H : Type} : Lit × DataW H → Nat
  | (.string bytes, d) => bytes.length + uptoBulk d + 1
  | (_, d) => uptoBulk d + 1
 end
def uptoSmall : (H : Type) → List (DataW H) → Bool := fun _ ds => decide (uptoBulkAll ds ≤ 1048576)
def OpenSpec.upto (s : _root_.Go.ChangeSpec) : _root_.Go.OpenSpec := { _root_.Go.OpenSpec.ofChange s with cond := some uptoSmall }

/-- 'laws.FnLocks', WHERE WHAT IT READS IS OF BULK AT MOST 1048576: true; the input reads as it did. -/
def fnLocksUptoRow : OpenClaim := { program := "ytlddampjbmklkaa", sum := "527249c08572a515e032bfabb90279d651a13b4990a7e03cb36da08e484156c3", func := "loop.example/g00831/laws.FnLocks", spec := "fnLocks", unfollowed := true, recurses := true, apart := false, narrowed := true }
def FnLocksUptoSaid : Prop := fnLocksUptoRow.holds Try.pinned (OpenSpec.upto fnLocksSpec)

/-- 'laws.FnExactLockPlanOk', WHERE WHAT IT READS IS OF BULK AT MOST 1048576: true; the input reads as it did. -/
def fnExactLockPlanOkUptoRow : OpenClaim := { program := "ytlddampjbmklkaa", sum := "527249c08572a515e032bfabb90279d651a13b4990a7e03cb36da08e484156c3", func := "loop.example/g00831/laws.FnExactLockPlanOk", spec := "fnExactLockPlanOk", unfollowed := true, recurses := true, apart := false, narrowed := true }
def FnExactLockPlanOkUptoSaid : Prop := fnExactLockPlanOkUptoRow.holds Try.pinned (OpenSpec.upto fnExactLockPlanOkSpec)

/-- 'laws.FnExactLockedAt', WHERE WHAT IT READS IS OF BULK AT MOST 1048576: true; the input reads as it did. -/
def fnExactLockedAtUptoRow : OpenClaim := { program := "ytlddampjbmklkaa", sum := "527249c08572a515e032bfabb90279d651a13b4990a7e03cb36da08e484156c3", func := "loop.example/g00831/laws.FnExactLockedAt", spec := "fnExactLockedAt", apart := false, narrowed := true }
def FnExactLockedAtUptoSaid : Prop := fnExactLockedAtUptoRow.holds Try.pinned (OpenSpec.upto fnExactLockedAtSpec)

/-- 'laws.FnExactLockOrder', WHERE WHAT IT READS IS OF BULK AT MOST 1048576: true; the input reads as it did. -/
def fnExactLockOrderUptoRow : OpenClaim := { program := "ytlddampjbmklkaa", sum := "527249c08572a515e032bfabb90279d651a13b4990a7e03cb36da08e484156c3", func := "loop.example/g00831/laws.FnExactLockOrder", spec := "fnExactLockOrder", apart := false, narrowed := true }
def FnExactLockOrderUptoSaid : Prop := fnExactLockOrderUptoRow.holds Try.pinned (OpenSpec.upto fnExactLockOrderSpec)

/-- 'laws.FnExactNextTurn', WHERE WHAT IT READS IS OF BULK AT MOST 1048576: true; the input reads as it did. -/
def fnExactNextTurnUptoRow : OpenClaim := { program := "ytlddampjbmklkaa", sum := "527249c08572a515e032bfabb90279d651a13b4990a7e03cb36da08e484156c3", func := "loop.example/g00831/laws.FnExactNextTurn", spec := "fnExactNextTurn", apart := false, narrowed := true }
def FnExactNextTurnUptoSaid : Prop := fnExactNextTurnUptoRow.holds Try.pinned (OpenSpec.upto fnExactNextTurnSpec)

/-- 'laws.FnExactAppendLocking', WHERE WHAT IT READS IS OF BULK AT MOST 1048576: true; the input reads as it did. -/
def fnExactAppendLockingUptoRow : OpenClaim := { program := "ytlddampjbmklkaa", sum := "527249c08572a515e032bfabb90279d651a13b4990a7e03cb36da08e484156c3", func := "loop.example/g00831/laws.FnExactAppendLocking", spec := "fnExactAppendLocking", unfollowed := true, recurses := true, apart := false, narrowed := true }
def FnExactAppendLockingUptoSaid : Prop := fnExactAppendLockingUptoRow.holds Try.pinned (OpenSpec.upto fnExactAppendLockingSpec)

/-- 'laws.FnExactEmptyLockings', WHERE WHAT IT READS IS OF BULK AT MOST 1048576: true; the input reads as it did. -/
def fnExactEmptyLockingsUptoRow : OpenClaim := { program := "ytlddampjbmklkaa", sum := "527249c08572a515e032bfabb90279d651a13b4990a7e03cb36da08e484156c3", func := "loop.example/g00831/laws.FnExactEmptyLockings", spec := "fnExactEmptyLockings", unfollowed := true, recurses := true, apart := false, narrowed := true }
def FnExactEmptyLockingsUptoSaid : Prop := fnExactEmptyLockingsUptoRow.holds Try.pinned (OpenSpec.upto fnExactEmptyLockingsSpec)

end Rows
end Go.Proofs.Ytlddampjbmklkaa
