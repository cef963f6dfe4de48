/-
  No cell of these rows narrows 'for every input' (looked for: loops, veiled, ifaces, maps, wideKeys, modest, calm, conditions, laid).
  DERIVED. THE GIVEN ROWS OF THIS SEAT. 9 by the template 'for every input the law returns true; each argument reads behind the call as it read before'; 0 by the template 'total and deterministic' (their statements: YtgjappjlnkdpnaaTotals.lean).
  GIVEN WITH THE SEED: the statements are not yours to turn. If you find one false, say at which input.
  Laid BY PROGRAM, IN A SANDBOX (cutbox-rows.mjs): the forced cells as the released guide's own fill.sh prints them over the translation a175f07efb083bad… (all of the seat's roots in one cut). By AI agents, Wed Nov 11 2026. No macro, syntax, notation, axiom, sorry.
-/
import Derived.Test.YtgjappjlnkdpnaaChecked
import GoSem.Claim
import GoSem.ClaimJoined
import GoSem.ClaimMapViews
import Derived.JoinedTies
import Derived.KernelRfl
namespace Go.Proofs.Ytgjappjlnkdpnaa
/- THE CELL 'sum', in the pinned program and in every row, IS THE sha256 OF THE DUMP (.gsa) THAT YtgjappjlnkdpnaaProg.lean LOADS. Nothing in Lean hashes anything: it is a label: what it is worth is what the hold of that sum in a sandbox is worth. -/
noncomputable def Try.pinned : Pinned := { name := "ytgjappjlnkdpnaa", sum := "a175f07efb083badb9944e98e5b545c8816184fe3aed592fedc06a952ef9acdd", checked := Try.checked }
namespace Rows
def none {H : Type} : Left H := { results := [], args := [] }

/-- 'laws.FnRoutes': WHATEVER THE INPUT: true; the input reads as it did. -/
def fnRoutesSpec : ChangeSpec := { name := "fnRoutes", fn := fun _ => fun
  | [d] => { results := [.lit (.bool true)], args := [d] }
  | _ => none }
def fnRoutesRow : OpenClaim := { program := "ytgjappjlnkdpnaa", sum := "a175f07efb083badb9944e98e5b545c8816184fe3aed592fedc06a952ef9acdd", func := "loop.example/g00831/laws.FnRoutes", spec := "fnRoutes", unfollowed := true, recurses := true, apart := false }
def FnRoutesSaid : Prop := fnRoutesRow.holds Try.pinned (OpenSpec.ofChange fnRoutesSpec)

/-- ITS FALSE NEIGHBOUR: 'it returns false'. Refute it at one input. -/
def fnRoutesWrong : ChangeSpec := { name := "fnRoutes", fn := fun _ => fun
  | [d] => { results := [.lit (.bool false)], args := [d] }
  | _ => none }
def FnRoutesWrongFalsely : Prop := fnRoutesRow.holds Try.pinned (OpenSpec.ofChange fnRoutesWrong)

/-- 'laws.FnFleets': WHATEVER THE INPUT: true; the input reads as it did. -/
def fnFleetsSpec : ChangeSpec := { name := "fnFleets", fn := fun _ => fun
  | [d] => { results := [.lit (.bool true)], args := [d] }
  | _ => none }
def fnFleetsRow : OpenClaim := { program := "ytgjappjlnkdpnaa", sum := "a175f07efb083badb9944e98e5b545c8816184fe3aed592fedc06a952ef9acdd", func := "loop.example/g00831/laws.FnFleets", spec := "fnFleets", unfollowed := true, recurses := true, apart := false }
def FnFleetsSaid : Prop := fnFleetsRow.holds Try.pinned (OpenSpec.ofChange fnFleetsSpec)

/-- ITS FALSE NEIGHBOUR: 'it returns false'. Refute it at one input. -/
def fnFleetsWrong : ChangeSpec := { name := "fnFleets", fn := fun _ => fun
  | [d] => { results := [.lit (.bool false)], args := [d] }
  | _ => none }
def FnFleetsWrongFalsely : Prop := fnFleetsRow.holds Try.pinned (OpenSpec.ofChange fnFleetsWrong)

/-- 'laws.FnExactShipOk': WHATEVER THE INPUT: true; the input reads as it did. -/
def fnExactShipOkSpec : ChangeSpec := { name := "fnExactShipOk", fn := fun _ => fun
  | [d] => { results := [.lit (.bool true)], args := [d] }
  | _ => none }
def fnExactShipOkRow : OpenClaim := { program := "ytgjappjlnkdpnaa", sum := "a175f07efb083badb9944e98e5b545c8816184fe3aed592fedc06a952ef9acdd", func := "loop.example/g00831/laws.FnExactShipOk", spec := "fnExactShipOk", apart := false }
def FnExactShipOkSaid : Prop := fnExactShipOkRow.holds Try.pinned (OpenSpec.ofChange fnExactShipOkSpec)

/-- ITS FALSE NEIGHBOUR: 'it returns false'. Refute it at one input. -/
def fnExactShipOkWrong : ChangeSpec := { name := "fnExactShipOk", fn := fun _ => fun
  | [d] => { results := [.lit (.bool false)], args := [d] }
  | _ => none }
def FnExactShipOkWrongFalsely : Prop := fnExactShipOkRow.holds Try.pinned (OpenSpec.ofChange fnExactShipOkWrong)

/-- 'laws.FnExactFleetOk': WHATEVER THE INPUT: true; the input reads as it did. -/
def fnExactFleetOkSpec : ChangeSpec := { name := "fnExactFleetOk", fn := fun _ => fun
  | [d] => { results := [.lit (.bool true)], args := [d] }
  | _ => none }
def fnExactFleetOkRow : OpenClaim := { program := "ytgjappjlnkdpnaa", sum := "a175f07efb083badb9944e98e5b545c8816184fe3aed592fedc06a952ef9acdd", func := "loop.example/g00831/laws.FnExactFleetOk", spec := "fnExactFleetOk", unfollowed := true, recurses := true, apart := false }
def FnExactFleetOkSaid : Prop := fnExactFleetOkRow.holds Try.pinned (OpenSpec.ofChange fnExactFleetOkSpec)

/-- ITS FALSE NEIGHBOUR: 'it returns false'. Refute it at one input. -/
def fnExactFleetOkWrong : ChangeSpec := { name := "fnExactFleetOk", fn := fun _ => fun
  | [d] => { results := [.lit (.bool false)], args := [d] }
  | _ => none }
def FnExactFleetOkWrongFalsely : Prop := fnExactFleetOkRow.holds Try.pinned (OpenSpec.ofChange fnExactFleetOkWrong)

/-- 'laws.FnExactShipNamed': WHATEVER THE INPUT: true; the input reads as it did. -/
def fnExactShipNamedSpec : ChangeSpec := { name := "fnExactShipNamed", fn := fun _ => fun
  | [d1, d2] => { results := [.lit (.bool true)], args := [d1, d2] }
  | _ => none }
def fnExactShipNamedRow : OpenClaim := { program := "ytgjappjlnkdpnaa", sum := "a175f07efb083badb9944e98e5b545c8816184fe3aed592fedc06a952ef9acdd", func := "loop.example/g00831/laws.FnExactShipNamed", spec := "fnExactShipNamed", unfollowed := true, recurses := true, apart := false }
def FnExactShipNamedSaid : Prop := fnExactShipNamedRow.holds Try.pinned (OpenSpec.ofChange fnExactShipNamedSpec)

/-- ITS FALSE NEIGHBOUR: 'it returns false'. Refute it at one input. -/
def fnExactShipNamedWrong : ChangeSpec := { name := "fnExactShipNamed", fn := fun _ => fun
  | [d1, d2] => { results := [.lit (.bool false)], args := [d1, d2] }
  | _ => none }
def FnExactShipNamedWrongFalsely : Prop := fnExactShipNamedRow.holds Try.pinned (OpenSpec.ofChange fnExactShipNamedWrong)

/-- 'laws.FnExactMinutesOn': WHATEVER THE INPUT: true; the input reads as it did. -/
def fnExactMinutesOnSpec : ChangeSpec := { name := "fnExactMinutesOn", fn := fun _ => fun
  | [d1, d2, d3] => { results := [.lit (.bool true)], args := [d1, d2, d3] }
  | _ => none }
def fnExactMinutesOnRow : OpenClaim := { program := "ytgjappjlnkdpnaa", sum := "a175f07efb083badb9944e98e5b545c8816184fe3aed592fedc06a952ef9acdd", func := "loop.example/g00831/laws.FnExactMinutesOn", spec := "fnExactMinutesOn", unfollowed := true, recurses := true, apart := false }
def FnExactMinutesOnSaid : Prop := fnExactMinutesOnRow.holds Try.pinned (OpenSpec.ofChange fnExactMinutesOnSpec)

/-- ITS FALSE NEIGHBOUR: 'it returns false'. Refute it at one input. -/
def fnExactMinutesOnWrong : ChangeSpec := { name := "fnExactMinutesOn", fn := fun _ => fun
  | [d1, d2, d3] => { results := [.lit (.bool false)], args := [d1, d2, d3] }
  | _ => none }
def FnExactMinutesOnWrongFalsely : Prop := fnExactMinutesOnRow.holds Try.pinned (OpenSpec.ofChange fnExactMinutesOnWrong)

/-- 'laws.FnExactSquatOf': WHATEVER THE INPUT: true; the input reads as it did. -/
def fnExactSquatOfSpec : ChangeSpec := { name := "fnExactSquatOf", fn := fun _ => fun
  | [d] => { results := [.lit (.bool true)], args := [d] }
  | _ => none }
def fnExactSquatOfRow : OpenClaim := { program := "ytgjappjlnkdpnaa", sum := "a175f07efb083badb9944e98e5b545c8816184fe3aed592fedc06a952ef9acdd", func := "loop.example/g00831/laws.FnExactSquatOf", spec := "fnExactSquatOf", apart := false }
def FnExactSquatOfSaid : Prop := fnExactSquatOfRow.holds Try.pinned (OpenSpec.ofChange fnExactSquatOfSpec)

/-- ITS FALSE NEIGHBOUR: 'it returns false'. Refute it at one input. -/
def fnExactSquatOfWrong : ChangeSpec := { name := "fnExactSquatOf", fn := fun _ => fun
  | [d] => { results := [.lit (.bool false)], args := [d] }
  | _ => none }
def FnExactSquatOfWrongFalsely : Prop := fnExactSquatOfRow.holds Try.pinned (OpenSpec.ofChange fnExactSquatOfWrong)

/-- 'laws.FnExactLengthSum': WHATEVER THE INPUT: true; the input reads as it did. -/
def fnExactLengthSumSpec : ChangeSpec := { name := "fnExactLengthSum", fn := fun _ => fun
  | [d] => { results := [.lit (.bool true)], args := [d] }
  | _ => none }
def fnExactLengthSumRow : OpenClaim := { program := "ytgjappjlnkdpnaa", sum := "a175f07efb083badb9944e98e5b545c8816184fe3aed592fedc06a952ef9acdd", func := "loop.example/g00831/laws.FnExactLengthSum", spec := "fnExactLengthSum", unfollowed := true, recurses := true, apart := false }
def FnExactLengthSumSaid : Prop := fnExactLengthSumRow.holds Try.pinned (OpenSpec.ofChange fnExactLengthSumSpec)

/-- ITS FALSE NEIGHBOUR: 'it returns false'. Refute it at one input. -/
def fnExactLengthSumWrong : ChangeSpec := { name := "fnExactLengthSum", fn := fun _ => fun
  | [d] => { results := [.lit (.bool false)], args := [d] }
  | _ => none }
def FnExactLengthSumWrongFalsely : Prop := fnExactLengthSumRow.holds Try.pinned (OpenSpec.ofChange fnExactLengthSumWrong)

/-- 'laws.FnExactOfLine': WHATEVER THE INPUT: true; the input reads as it did. -/
def fnExactOfLineSpec : ChangeSpec := { name := "fnExactOfLine", fn := fun _ => fun
  | [d1, d2] => { results := [.lit (.bool true)], args := [d1, d2] }
  | _ => none }
def fnExactOfLineRow : OpenClaim := { program := "ytgjappjlnkdpnaa", sum := "a175f07efb083badb9944e98e5b545c8816184fe3aed592fedc06a952ef9acdd", func := "loop.example/g00831/laws.FnExactOfLine", spec := "fnExactOfLine", unfollowed := true, recurses := true, apart := false }
def FnExactOfLineSaid : Prop := fnExactOfLineRow.holds Try.pinned (OpenSpec.ofChange fnExactOfLineSpec)

/-- ITS FALSE NEIGHBOUR: 'it returns false'. Refute it at one input. -/
def fnExactOfLineWrong : ChangeSpec := { name := "fnExactOfLine", fn := fun _ => fun
  | [d1, d2] => { results := [.lit (.bool false)], args := [d1, d2] }
  | _ => none }
def FnExactOfLineWrongFalsely : Prop := fnExactOfLineRow.holds Try.pinned (OpenSpec.ofChange fnExactOfLineWrong)

/- THE SECOND FORM. 'bulk': how many values and letters a reading holds, each counted each time it is reached (what is shared counts as often as it is met; a slice's spare places count too). A statement '..UptoSaid' is the law's where the arguments, and the package variables that the reading takes, are together of bulk at most 1048576: NARROWER than '..Said'. Prove '..Said' where nothing that the law and all that it calls make is longer than what came in: it says more and counts as full. Else prove '..UptoSaid'. A law counts once. -/
mutual
def uptoBulk {H : Type} : DataW H → Nat
  | .lit (.string bytes) => bytes.length + 1
  | .lit _ => 1
  | .nil => 1
  | .ptr d => uptoBulk d + 1
  | .slice elems spare => uptoBulkAll elems + uptoBulkAll spare + 1
  | .agg parts => uptoBulkAll parts + 1
  | .iface _ d => uptoBulk d + 1
  | .map entries => uptoBulkEntries entries + 1
  | .held _ => 1
def uptoBulkAll {H : Type} : List (DataW H) → Nat
  | [] => 0
  | d :: r => uptoBulk d + uptoBulkAll r
def uptoBulkEntries {H : Type} : List (Lit × DataW H) → Nat
  | [] => 0
  | x :: r => uptoBulkEntry x + uptoBulkEntries r
def uptoBulkEntry {H : Type} : Lit × DataW H → Nat
  | (.string bytes, d) => bytes.length + uptoBulk d + 1
  | (_, d) => uptoBulk d + 1
 end
def uptoSmall : (H : Type) → List (DataW H) → Bool := fun _ ds => decide (uptoBulkAll ds ≤ 1048576)
def OpenSpec.upto (s : _root_.Go.ChangeSpec) : _root_.Go.OpenSpec := { _root_.Go.OpenSpec.ofChange s with cond := some uptoSmall }

/-- 'laws.FnRoutes', WHERE WHAT IT READS IS OF BULK AT MOST 1048576: true; the input reads as it did. -/
def fnRoutesUptoRow : OpenClaim := { program := "ytgjappjlnkdpnaa", sum := "a175f07efb083badb9944e98e5b545c8816184fe3aed592fedc06a952ef9acdd", func := "loop.example/g00831/laws.FnRoutes", spec := "fnRoutes", unfollowed := true, recurses := true, apart := false, narrowed := true }
def FnRoutesUptoSaid : Prop := fnRoutesUptoRow.holds Try.pinned (OpenSpec.upto fnRoutesSpec)

/-- 'laws.FnFleets', WHERE WHAT IT READS IS OF BULK AT MOST 1048576: true; the input reads as it did. -/
def fnFleetsUptoRow : OpenClaim := { program := "ytgjappjlnkdpnaa", sum := "a175f07efb083badb9944e98e5b545c8816184fe3aed592fedc06a952ef9acdd", func := "loop.example/g00831/laws.FnFleets", spec := "fnFleets", unfollowed := true, recurses := true, apart := false, narrowed := true }
def FnFleetsUptoSaid : Prop := fnFleetsUptoRow.holds Try.pinned (OpenSpec.upto fnFleetsSpec)

/-- 'laws.FnExactShipOk', WHERE WHAT IT READS IS OF BULK AT MOST 1048576: true; the input reads as it did. -/
def fnExactShipOkUptoRow : OpenClaim := { program := "ytgjappjlnkdpnaa", sum := "a175f07efb083badb9944e98e5b545c8816184fe3aed592fedc06a952ef9acdd", func := "loop.example/g00831/laws.FnExactShipOk", spec := "fnExactShipOk", apart := false, narrowed := true }
def FnExactShipOkUptoSaid : Prop := fnExactShipOkUptoRow.holds Try.pinned (OpenSpec.upto fnExactShipOkSpec)

/-- 'laws.FnExactFleetOk', WHERE WHAT IT READS IS OF BULK AT MOST 1048576: true; the input reads as it did. -/
def fnExactFleetOkUptoRow : OpenClaim := { program := "ytgjappjlnkdpnaa", sum := "a175f07efb083badb9944e98e5b545c8816184fe3aed592fedc06a952ef9acdd", func := "loop.example/g00831/laws.FnExactFleetOk", spec := "fnExactFleetOk", unfollowed := true, recurses := true, apart := false, narrowed := true }
def FnExactFleetOkUptoSaid : Prop := fnExactFleetOkUptoRow.holds Try.pinned (OpenSpec.upto fnExactFleetOkSpec)

/-- 'laws.FnExactShipNamed', WHERE WHAT IT READS IS OF BULK AT MOST 1048576: true; the input reads as it did. -/
def fnExactShipNamedUptoRow : OpenClaim := { program := "ytgjappjlnkdpnaa", sum := "a175f07efb083badb9944e98e5b545c8816184fe3aed592fedc06a952ef9acdd", func := "loop.example/g00831/laws.FnExactShipNamed", spec := "fnExactShipNamed", unfollowed := true, recurses := true, apart := false, narrowed := true }
def FnExactShipNamedUptoSaid : Prop := fnExactShipNamedUptoRow.holds Try.pinned (OpenSpec.upto fnExactShipNamedSpec)

/-- 'laws.FnExactMinutesOn', WHERE WHAT IT READS IS OF BULK AT MOST 1048576: true; the input reads as it did. -/
def fnExactMinutesOnUptoRow : OpenClaim := { program := "ytgjappjlnkdpnaa", sum := "a175f07efb083badb9944e98e5b545c8816184fe3aed592fedc06a952ef9acdd", func := "loop.example/g00831/laws.FnExactMinutesOn", spec := "fnExactMinutesOn", unfollowed := true, recurses := true, apart := false, narrowed := true }
def FnExactMinutesOnUptoSaid : Prop := fnExactMinutesOnUptoRow.holds Try.pinned (OpenSpec.upto fnExactMinutesOnSpec)

/-- 'laws.FnExactSquatOf', WHERE WHAT IT READS IS OF BULK AT MOST 1048576: true; the input reads as it did. -/
def fnExactSquatOfUptoRow : OpenClaim := { program := "ytgjappjlnkdpnaa", sum := "a175f07efb083badb9944e98e5b545c8816184fe3aed592fedc06a952ef9acdd", func := "loop.example/g00831/laws.FnExactSquatOf", spec := "fnExactSquatOf", apart := false, narrowed := true }
def FnExactSquatOfUptoSaid : Prop := fnExactSquatOfUptoRow.holds Try.pinned (OpenSpec.upto fnExactSquatOfSpec)

/-- 'laws.FnExactLengthSum', WHERE WHAT IT READS IS OF BULK AT MOST 1048576: true; the input reads as it did. -/
def fnExactLengthSumUptoRow : OpenClaim := { program := "ytgjappjlnkdpnaa", sum := "a175f07efb083badb9944e98e5b545c8816184fe3aed592fedc06a952ef9acdd", func := "loop.example/g00831/laws.FnExactLengthSum", spec := "fnExactLengthSum", unfollowed := true, recurses := true, apart := false, narrowed := true }
def FnExactLengthSumUptoSaid : Prop := fnExactLengthSumUptoRow.holds Try.pinned (OpenSpec.upto fnExactLengthSumSpec)

/-- 'laws.FnExactOfLine', WHERE WHAT IT READS IS OF BULK AT MOST 1048576: true; the input reads as it did. -/
def fnExactOfLineUptoRow : OpenClaim := { program := "ytgjappjlnkdpnaa", sum := "a175f07efb083badb9944e98e5b545c8816184fe3aed592fedc06a952ef9acdd", func := "loop.example/g00831/laws.FnExactOfLine", spec := "fnExactOfLine", unfollowed := true, recurses := true, apart := false, narrowed := true }
def FnExactOfLineUptoSaid : Prop := fnExactOfLineUptoRow.holds Try.pinned (OpenSpec.upto fnExactOfLineSpec)

end Rows
end Go.Proofs.Ytgjappjlnkdpnaa
