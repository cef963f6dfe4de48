/-
  No cell of these rows narrows 'for every input' (looked for: loops, veiled, ifaces, maps, wideKeys, modest, calm, conditions, laid).
  DERIVED. THE GIVEN ROWS OF THIS SEAT. 9 by the template 'for every input the law returns true; each argument reads behind the call as it read before'; 0 by the template 'total and deterministic' (their statements: YtphagahhhfiiaaaTotals.lean).
  GIVEN WITH THE SEED: the statements are not yours to turn. If you find one false, say at which input.
  Laid BY PROGRAM, IN A SANDBOX (cutbox-rows.mjs): the forced cells as the released guide's own fill.sh prints them over the translation 67e62c119631a571… (all of the seat's roots in one cut). By AI agents, Wed Nov 11 2026. No macro, syntax, notation, axiom, sorry.
-/
import Derived.Test.YtphagahhhfiiaaaChecked
import GoSem.Claim
import GoSem.ClaimJoined
import GoSem.ClaimMapViews
import Derived.JoinedTies
import Derived.KernelRfl
namespace Go.Proofs.Ytphagahhhfiiaaa
/- THE CELL 'sum', in the pinned program and in every row, IS THE sha256 OF THE DUMP (.gsa) THAT YtphagahhhfiiaaaProg.lean LOADS. Nothing in Lean hashes anything: it is a label: what it is worth is what the hold of that sum in a sandbox is worth. -/
noncomputable def Try.pinned : Pinned := { name := "ytphagahhhfiiaaa", sum := "67e62c119631a57104af0ea32d557b8c22f2820ee66c7495fc760b2782d406f1", checked := Try.checked }
namespace Rows
def none {H : Type} : Left H := { results := [], args := [] }

/-- 'laws.FnPacked': WHATEVER THE INPUT: true; the input reads as it did. -/
def fnPackedSpec : ChangeSpec := { name := "fnPacked", fn := fun _ => fun
  | [d] => { results := [.lit (.bool true)], args := [d] }
  | _ => none }
def fnPackedRow : OpenClaim := { program := "ytphagahhhfiiaaa", sum := "67e62c119631a57104af0ea32d557b8c22f2820ee66c7495fc760b2782d406f1", func := "loop.example/g00831/laws.FnPacked", spec := "fnPacked", unfollowed := true, recurses := true, apart := false }
def FnPackedSaid : Prop := fnPackedRow.holds Try.pinned (OpenSpec.ofChange fnPackedSpec)

/-- ITS FALSE NEIGHBOUR: 'it returns false'. Refute it at one input. -/
def fnPackedWrong : ChangeSpec := { name := "fnPacked", fn := fun _ => fun
  | [d] => { results := [.lit (.bool false)], args := [d] }
  | _ => none }
def FnPackedWrongFalsely : Prop := fnPackedRow.holds Try.pinned (OpenSpec.ofChange fnPackedWrong)

/-- 'laws.FnExactChamberOk': WHATEVER THE INPUT: true; the input reads as it did. -/
def fnExactChamberOkSpec : ChangeSpec := { name := "fnExactChamberOk", fn := fun _ => fun
  | [d] => { results := [.lit (.bool true)], args := [d] }
  | _ => none }
def fnExactChamberOkRow : OpenClaim := { program := "ytphagahhhfiiaaa", sum := "67e62c119631a57104af0ea32d557b8c22f2820ee66c7495fc760b2782d406f1", func := "loop.example/g00831/laws.FnExactChamberOk", spec := "fnExactChamberOk", apart := false }
def FnExactChamberOkSaid : Prop := fnExactChamberOkRow.holds Try.pinned (OpenSpec.ofChange fnExactChamberOkSpec)

/-- ITS FALSE NEIGHBOUR: 'it returns false'. Refute it at one input. -/
def fnExactChamberOkWrong : ChangeSpec := { name := "fnExactChamberOk", fn := fun _ => fun
  | [d] => { results := [.lit (.bool false)], args := [d] }
  | _ => none }
def FnExactChamberOkWrongFalsely : Prop := fnExactChamberOkRow.holds Try.pinned (OpenSpec.ofChange fnExactChamberOkWrong)

/-- 'laws.FnExactLengthsOk': WHATEVER THE INPUT: true; the input reads as it did. -/
def fnExactLengthsOkSpec : ChangeSpec := { name := "fnExactLengthsOk", fn := fun _ => fun
  | [d] => { results := [.lit (.bool true)], args := [d] }
  | _ => none }
def fnExactLengthsOkRow : OpenClaim := { program := "ytphagahhhfiiaaa", sum := "67e62c119631a57104af0ea32d557b8c22f2820ee66c7495fc760b2782d406f1", func := "loop.example/g00831/laws.FnExactLengthsOk", spec := "fnExactLengthsOk", unfollowed := true, recurses := true, apart := false }
def FnExactLengthsOkSaid : Prop := fnExactLengthsOkRow.holds Try.pinned (OpenSpec.ofChange fnExactLengthsOkSpec)

/-- ITS FALSE NEIGHBOUR: 'it returns false'. Refute it at one input. -/
def fnExactLengthsOkWrong : ChangeSpec := { name := "fnExactLengthsOk", fn := fun _ => fun
  | [d] => { results := [.lit (.bool false)], args := [d] }
  | _ => none }
def FnExactLengthsOkWrongFalsely : Prop := fnExactLengthsOkRow.holds Try.pinned (OpenSpec.ofChange fnExactLengthsOkWrong)

/-- 'laws.FnExactIsPacking': WHATEVER THE INPUT: true; the input reads as it did. -/
def fnExactIsPackingSpec : ChangeSpec := { name := "fnExactIsPacking", fn := fun _ => fun
  | [d1, d2, d3] => { results := [.lit (.bool true)], args := [d1, d2, d3] }
  | _ => none }
def fnExactIsPackingRow : OpenClaim := { program := "ytphagahhhfiiaaa", sum := "67e62c119631a57104af0ea32d557b8c22f2820ee66c7495fc760b2782d406f1", func := "loop.example/g00831/laws.FnExactIsPacking", spec := "fnExactIsPacking", unfollowed := true, recurses := true, apart := false }
def FnExactIsPackingSaid : Prop := fnExactIsPackingRow.holds Try.pinned (OpenSpec.ofChange fnExactIsPackingSpec)

/-- ITS FALSE NEIGHBOUR: 'it returns false'. Refute it at one input. -/
def fnExactIsPackingWrong : ChangeSpec := { name := "fnExactIsPacking", fn := fun _ => fun
  | [d1, d2, d3] => { results := [.lit (.bool false)], args := [d1, d2, d3] }
  | _ => none }
def FnExactIsPackingWrongFalsely : Prop := fnExactIsPackingRow.holds Try.pinned (OpenSpec.ofChange fnExactIsPackingWrong)

/-- 'laws.FnExactPackShips': WHATEVER THE INPUT: true; the input reads as it did. -/
def fnExactPackShipsSpec : ChangeSpec := { name := "fnExactPackShips", fn := fun _ => fun
  | [d1, d2] => { results := [.lit (.bool true)], args := [d1, d2] }
  | _ => none }
def fnExactPackShipsRow : OpenClaim := { program := "ytphagahhhfiiaaa", sum := "67e62c119631a57104af0ea32d557b8c22f2820ee66c7495fc760b2782d406f1", func := "loop.example/g00831/laws.FnExactPackShips", spec := "fnExactPackShips", unfollowed := true, recurses := true, apart := false }
def FnExactPackShipsSaid : Prop := fnExactPackShipsRow.holds Try.pinned (OpenSpec.ofChange fnExactPackShipsSpec)

/-- ITS FALSE NEIGHBOUR: 'it returns false'. Refute it at one input. -/
def fnExactPackShipsWrong : ChangeSpec := { name := "fnExactPackShips", fn := fun _ => fun
  | [d1, d2] => { results := [.lit (.bool false)], args := [d1, d2] }
  | _ => none }
def FnExactPackShipsWrongFalsely : Prop := fnExactPackShipsRow.holds Try.pinned (OpenSpec.ofChange fnExactPackShipsWrong)

/-- 'laws.FnExactMostShips': WHATEVER THE INPUT: true; the input reads as it did. -/
def fnExactMostShipsSpec : ChangeSpec := { name := "fnExactMostShips", fn := fun _ => fun
  | [d1, d2] => { results := [.lit (.bool true)], args := [d1, d2] }
  | _ => none }
def fnExactMostShipsRow : OpenClaim := { program := "ytphagahhhfiiaaa", sum := "67e62c119631a57104af0ea32d557b8c22f2820ee66c7495fc760b2782d406f1", func := "loop.example/g00831/laws.FnExactMostShips", spec := "fnExactMostShips", unfollowed := true, recurses := true, apart := false }
def FnExactMostShipsSaid : Prop := fnExactMostShipsRow.holds Try.pinned (OpenSpec.ofChange fnExactMostShipsSpec)

/-- ITS FALSE NEIGHBOUR: 'it returns false'. Refute it at one input. -/
def fnExactMostShipsWrong : ChangeSpec := { name := "fnExactMostShips", fn := fun _ => fun
  | [d1, d2] => { results := [.lit (.bool false)], args := [d1, d2] }
  | _ => none }
def FnExactMostShipsWrongFalsely : Prop := fnExactMostShipsRow.holds Try.pinned (OpenSpec.ofChange fnExactMostShipsWrong)

/-- 'laws.FnExactPrefixLockings': WHATEVER THE INPUT: true; the input reads as it did. -/
def fnExactPrefixLockingsSpec : ChangeSpec := { name := "fnExactPrefixLockings", fn := fun _ => fun
  | [d1, d2] => { results := [.lit (.bool true)], args := [d1, d2] }
  | _ => none }
def fnExactPrefixLockingsRow : OpenClaim := { program := "ytphagahhhfiiaaa", sum := "67e62c119631a57104af0ea32d557b8c22f2820ee66c7495fc760b2782d406f1", func := "loop.example/g00831/laws.FnExactPrefixLockings", spec := "fnExactPrefixLockings", unfollowed := true, recurses := true, apart := false }
def FnExactPrefixLockingsSaid : Prop := fnExactPrefixLockingsRow.holds Try.pinned (OpenSpec.ofChange fnExactPrefixLockingsSpec)

/-- ITS FALSE NEIGHBOUR: 'it returns false'. Refute it at one input. -/
def fnExactPrefixLockingsWrong : ChangeSpec := { name := "fnExactPrefixLockings", fn := fun _ => fun
  | [d1, d2] => { results := [.lit (.bool false)], args := [d1, d2] }
  | _ => none }
def FnExactPrefixLockingsWrongFalsely : Prop := fnExactPrefixLockingsRow.holds Try.pinned (OpenSpec.ofChange fnExactPrefixLockingsWrong)

/-- 'laws.FnExactLeastLockings': WHATEVER THE INPUT: true; the input reads as it did. -/
def fnExactLeastLockingsSpec : ChangeSpec := { name := "fnExactLeastLockings", fn := fun _ => fun
  | [d1, d2] => { results := [.lit (.bool true)], args := [d1, d2] }
  | _ => none }
def fnExactLeastLockingsRow : OpenClaim := { program := "ytphagahhhfiiaaa", sum := "67e62c119631a57104af0ea32d557b8c22f2820ee66c7495fc760b2782d406f1", func := "loop.example/g00831/laws.FnExactLeastLockings", spec := "fnExactLeastLockings", unfollowed := true, recurses := true, apart := false }
def FnExactLeastLockingsSaid : Prop := fnExactLeastLockingsRow.holds Try.pinned (OpenSpec.ofChange fnExactLeastLockingsSpec)

/-- ITS FALSE NEIGHBOUR: 'it returns false'. Refute it at one input. -/
def fnExactLeastLockingsWrong : ChangeSpec := { name := "fnExactLeastLockings", fn := fun _ => fun
  | [d1, d2] => { results := [.lit (.bool false)], args := [d1, d2] }
  | _ => none }
def FnExactLeastLockingsWrongFalsely : Prop := fnExactLeastLockingsRow.holds Try.pinned (OpenSpec.ofChange fnExactLeastLockingsWrong)

/-- 'laws.FnExactLockingTime': WHATEVER THE INPUT: true; the input reads as it did. -/
def fnExactLockingTimeSpec : ChangeSpec := { name := "fnExactLockingTime", fn := fun _ => fun
  | [d1, d2] => { results := [.lit (.bool true)], args := [d1, d2] }
  | _ => none }
def fnExactLockingTimeRow : OpenClaim := { program := "ytphagahhhfiiaaa", sum := "67e62c119631a57104af0ea32d557b8c22f2820ee66c7495fc760b2782d406f1", func := "loop.example/g00831/laws.FnExactLockingTime", spec := "fnExactLockingTime", apart := false }
def FnExactLockingTimeSaid : Prop := fnExactLockingTimeRow.holds Try.pinned (OpenSpec.ofChange fnExactLockingTimeSpec)

/-- ITS FALSE NEIGHBOUR: 'it returns false'. Refute it at one input. -/
def fnExactLockingTimeWrong : ChangeSpec := { name := "fnExactLockingTime", fn := fun _ => fun
  | [d1, d2] => { results := [.lit (.bool false)], args := [d1, d2] }
  | _ => none }
def FnExactLockingTimeWrongFalsely : Prop := fnExactLockingTimeRow.holds Try.pinned (OpenSpec.ofChange fnExactLockingTimeWrong)

/- THE SECOND FORM. 'bulk': how many values and letters a reading holds, each counted each time it is reached (what is shared counts as often as it is met; a slice's spare places count too). A statement '..UptoSaid' is the law's where the arguments, and the package variables that the reading takes, are together of bulk at most 1048576: NARROWER than '..Said'. Prove '..Said' where nothing that the law and all that it calls make is longer than what came in: it says more and counts as full. Else prove '..UptoSaid'. A law counts once. -/
mutual
def uptoBulk {H : Type} : DataW H → Nat
  | .lit (.string bytes) => bytes.length + 1
  | .lit _ => 1
  | .nil => 1
  | .ptr d => uptoBulk d + 1
  | .slice elems spare => uptoBulkAll elems + uptoBulkAll spare + 1
  | .agg parts => uptoBulkAll parts + 1
  | .iface _ d => uptoBulk d + 1
  | .map entries => uptoBulkEntries entries + 1
  | .held _ => 1
def uptoBulkAll {H : Type} : List (DataW H) → Nat
  | [] => 0
  | d :: r => uptoBulk d + uptoBulkAll r
def uptoBulkEntries {H : Type} : List (Lit × DataW H) → Nat
  | [] => 0
  | x :: r => uptoBulkEntry x + uptoBulkEntries r
def uptoBulkEntry {H : Type} : Lit × DataW H → Nat
  | (.string bytes, d) => bytes.length + uptoBulk d + 1
  | (_, d) => uptoBulk d + 1
 end
def uptoSmall : (H : Type) → List (DataW H) → Bool := fun _ ds => decide (uptoBulkAll ds ≤ 1048576)
def OpenSpec.upto (s : _root_.Go.ChangeSpec) : _root_.Go.OpenSpec := { _root_.Go.OpenSpec.ofChange s with cond := some uptoSmall }

/-- 'laws.FnPacked', WHERE WHAT IT READS IS OF BULK AT MOST 1048576: true; the input reads as it did. -/
def fnPackedUptoRow : OpenClaim := { program := "ytphagahhhfiiaaa", sum := "67e62c119631a57104af0ea32d557b8c22f2820ee66c7495fc760b2782d406f1", func := "loop.example/g00831/laws.FnPacked", spec := "fnPacked", unfollowed := true, recurses := true, apart := false, narrowed := true }
def FnPackedUptoSaid : Prop := fnPackedUptoRow.holds Try.pinned (OpenSpec.upto fnPackedSpec)

/-- 'laws.FnExactChamberOk', WHERE WHAT IT READS IS OF BULK AT MOST 1048576: true; the input reads as it did. -/
def fnExactChamberOkUptoRow : OpenClaim := { program := "ytphagahhhfiiaaa", sum := "67e62c119631a57104af0ea32d557b8c22f2820ee66c7495fc760b2782d406f1", func := "loop.example/g00831/laws.FnExactChamberOk", spec := "fnExactChamberOk", apart := false, narrowed := true }
def FnExactChamberOkUptoSaid : Prop := fnExactChamberOkUptoRow.holds Try.pinned (OpenSpec.upto fnExactChamberOkSpec)

/-- 'laws.FnExactLengthsOk', WHERE WHAT IT READS IS OF BULK AT MOST 1048576: true; the input reads as it did. -/
def fnExactLengthsOkUptoRow : OpenClaim := { program := "ytphagahhhfiiaaa", sum := "67e62c119631a57104af0ea32d557b8c22f2820ee66c7495fc760b2782d406f1", func := "loop.example/g00831/laws.FnExactLengthsOk", spec := "fnExactLengthsOk", unfollowed := true, recurses := true, apart := false, narrowed := true }
def FnExactLengthsOkUptoSaid : Prop := fnExactLengthsOkUptoRow.holds Try.pinned (OpenSpec.upto fnExactLengthsOkSpec)

/-- 'laws.FnExactIsPacking', WHERE WHAT IT READS IS OF BULK AT MOST 1048576: true; the input reads as it did. -/
def fnExactIsPackingUptoRow : OpenClaim := { program := "ytphagahhhfiiaaa", sum := "67e62c119631a57104af0ea32d557b8c22f2820ee66c7495fc760b2782d406f1", func := "loop.example/g00831/laws.FnExactIsPacking", spec := "fnExactIsPacking", unfollowed := true, recurses := true, apart := false, narrowed := true }
def FnExactIsPackingUptoSaid : Prop := fnExactIsPackingUptoRow.holds Try.pinned (OpenSpec.upto fnExactIsPackingSpec)

/-- 'laws.FnExactPackShips', WHERE WHAT IT READS IS OF BULK AT MOST 1048576: true; the input reads as it did. -/
def fnExactPackShipsUptoRow : OpenClaim := { program := "ytphagahhhfiiaaa", sum := "67e62c119631a57104af0ea32d557b8c22f2820ee66c7495fc760b2782d406f1", func := "loop.example/g00831/laws.FnExactPackShips", spec := "fnExactPackShips", unfollowed := true, recurses := true, apart := false, narrowed := true }
def FnExactPackShipsUptoSaid : Prop := fnExactPackShipsUptoRow.holds Try.pinned (OpenSpec.upto fnExactPackShipsSpec)

/-- 'laws.FnExactMostShips', WHERE WHAT IT READS IS OF BULK AT MOST 1048576: true; the input reads as it did. -/
def fnExactMostShipsUptoRow : OpenClaim := { program := "ytphagahhhfiiaaa", sum := "67e62c119631a57104af0ea32d557b8c22f2820ee66c7495fc760b2782d406f1", func := "loop.example/g00831/laws.FnExactMostShips", spec := "fnExactMostShips", unfollowed := true, recurses := true, apart := false, narrowed := true }
def FnExactMostShipsUptoSaid : Prop := fnExactMostShipsUptoRow.holds Try.pinned (OpenSpec.upto fnExactMostShipsSpec)

/-- 'laws.FnExactPrefixLockings', WHERE WHAT IT READS IS OF BULK AT MOST 1048576: true; the input reads as it did. -/
def fnExactPrefixLockingsUptoRow : OpenClaim := { program := "ytphagahhhfiiaaa", sum := "67e62c119631a57104af0ea32d557b8c22f2820ee66c7495fc760b2782d406f1", func := "loop.example/g00831/laws.FnExactPrefixLockings", spec := "fnExactPrefixLockings", unfollowed := true, recurses := true, apart := false, narrowed := true }
def FnExactPrefixLockingsUptoSaid : Prop := fnExactPrefixLockingsUptoRow.holds Try.pinned (OpenSpec.upto fnExactPrefixLockingsSpec)

/-- 'laws.FnExactLeastLockings', WHERE WHAT IT READS IS OF BULK AT MOST 1048576: true; the input reads as it did. -/
def fnExactLeastLockingsUptoRow : OpenClaim := { program := "ytphagahhhfiiaaa", sum := "67e62c119631a57104af0ea32d557b8c22f2820ee66c7495fc760b2782d406f1", func := "loop.example/g00831/laws.FnExactLeastLockings", spec := "fnExactLeastLockings", unfollowed := true, recurses := true, apart := false, narrowed := true }
def FnExactLeastLockingsUptoSaid : Prop := fnExactLeastLockingsUptoRow.holds Try.pinned (OpenSpec.upto fnExactLeastLockingsSpec)

/-- 'laws.FnExactLockingTime', WHERE WHAT IT READS IS OF BULK AT MOST 1048576: true; the input reads as it did. -/
def fnExactLockingTimeUptoRow : OpenClaim := { program := "ytphagahhhfiiaaa", sum := "67e62c119631a57104af0ea32d557b8c22f2820ee66c7495fc760b2782d406f1", func := "loop.example/g00831/laws.FnExactLockingTime", spec := "fnExactLockingTime", apart := false, narrowed := true }
def FnExactLockingTimeUptoSaid : Prop := fnExactLockingTimeUptoRow.holds Try.pinned (OpenSpec.upto fnExactLockingTimeSpec)

end Rows
end Go.Proofs.Ytphagahhhfiiaaa
