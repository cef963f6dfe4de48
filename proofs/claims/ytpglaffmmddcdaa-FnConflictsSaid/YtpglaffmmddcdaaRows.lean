/-
  No cell of these rows narrows 'for every input' (looked for: loops, veiled, ifaces, maps, wideKeys, modest, calm, conditions, laid).
  DERIVED. THE GIVEN ROWS OF THIS SEAT. 9 by the template 'for every input the law returns true; each argument reads behind the call as it read before'; 0 by the template 'total and deterministic' (their statements: YtpglaffmmddcdaaTotals.lean).
  GIVEN WITH THE SEED: the statements are not yours to turn. If you find one false, say at which input.
  Laid BY PROGRAM, IN A SANDBOX (cutbox-rows.mjs): the forced cells as the released guide's own fill.sh prints them over the translation ab8e104f1f894950… (all of the seat's roots in one cut). By AI agents, Wed Nov 11 2026. No macro, syntax, notation, axiom, sorry.
-/
import Derived.Test.YtpglaffmmddcdaaChecked
import GoSem.Claim
import GoSem.ClaimJoined
import GoSem.ClaimMapViews
import Derived.JoinedTies
import Derived.KernelRfl
namespace Go.Proofs.Ytpglaffmmddcdaa
/- THE CELL 'sum', in the pinned program and in every row, IS THE sha256 OF THE DUMP (.gsa) THAT YtpglaffmmddcdaaProg.lean LOADS. Nothing in Lean hashes anything: it is a label: what it is worth is what the hold of that sum in a sandbox is worth. -/
noncomputable def Try.pinned : Pinned := { name := "ytpglaffmmddcdaa", sum := "ab8e104f1f894950310d53faa92fcb592809036b2fca13237063f94324928a43", checked := Try.checked }
namespace Rows
def none {H : Type} : Left H := { results := [], args := [] }

/-- 'laws.FnConflicts': WHATEVER THE INPUT: true; the input reads as it did. -/
def fnConflictsSpec : ChangeSpec := { name := "fnConflicts", fn := fun _ => fun
  | [d] => { results := [.lit (.bool true)], args := [d] }
  | _ => none }
def fnConflictsRow : OpenClaim := { program := "ytpglaffmmddcdaa", sum := "ab8e104f1f894950310d53faa92fcb592809036b2fca13237063f94324928a43", func := "loop.example/g00831/laws.FnConflicts", spec := "fnConflicts", unfollowed := true, recurses := true, apart := false }
def FnConflictsSaid : Prop := fnConflictsRow.holds Try.pinned (OpenSpec.ofChange fnConflictsSpec)

/-- ITS FALSE NEIGHBOUR: 'it returns false'. Refute it at one input. -/
def fnConflictsWrong : ChangeSpec := { name := "fnConflicts", fn := fun _ => fun
  | [d] => { results := [.lit (.bool false)], args := [d] }
  | _ => none }
def FnConflictsWrongFalsely : Prop := fnConflictsRow.holds Try.pinned (OpenSpec.ofChange fnConflictsWrong)

/-- 'laws.FnExactRegimeOk': WHATEVER THE INPUT: true; the input reads as it did. -/
def fnExactRegimeOkSpec : ChangeSpec := { name := "fnExactRegimeOk", fn := fun _ => fun
  | [d] => { results := [.lit (.bool true)], args := [d] }
  | _ => none }
def fnExactRegimeOkRow : OpenClaim := { program := "ytpglaffmmddcdaa", sum := "ab8e104f1f894950310d53faa92fcb592809036b2fca13237063f94324928a43", func := "loop.example/g00831/laws.FnExactRegimeOk", spec := "fnExactRegimeOk", apart := false }
def FnExactRegimeOkSaid : Prop := fnExactRegimeOkRow.holds Try.pinned (OpenSpec.ofChange fnExactRegimeOkSpec)

/-- ITS FALSE NEIGHBOUR: 'it returns false'. Refute it at one input. -/
def fnExactRegimeOkWrong : ChangeSpec := { name := "fnExactRegimeOk", fn := fun _ => fun
  | [d] => { results := [.lit (.bool false)], args := [d] }
  | _ => none }
def FnExactRegimeOkWrongFalsely : Prop := fnExactRegimeOkRow.holds Try.pinned (OpenSpec.ofChange fnExactRegimeOkWrong)

/-- 'laws.FnExactOverlaps': WHATEVER THE INPUT: true; the input reads as it did. -/
def fnExactOverlapsSpec : ChangeSpec := { name := "fnExactOverlaps", fn := fun _ => fun
  | [d1, d2] => { results := [.lit (.bool true)], args := [d1, d2] }
  | _ => none }
def fnExactOverlapsRow : OpenClaim := { program := "ytpglaffmmddcdaa", sum := "ab8e104f1f894950310d53faa92fcb592809036b2fca13237063f94324928a43", func := "loop.example/g00831/laws.FnExactOverlaps", spec := "fnExactOverlaps", apart := false }
def FnExactOverlapsSaid : Prop := fnExactOverlapsRow.holds Try.pinned (OpenSpec.ofChange fnExactOverlapsSpec)

/-- ITS FALSE NEIGHBOUR: 'it returns false'. Refute it at one input. -/
def fnExactOverlapsWrong : ChangeSpec := { name := "fnExactOverlaps", fn := fun _ => fun
  | [d1, d2] => { results := [.lit (.bool false)], args := [d1, d2] }
  | _ => none }
def FnExactOverlapsWrongFalsely : Prop := fnExactOverlapsRow.holds Try.pinned (OpenSpec.ofChange fnExactOverlapsWrong)

/-- 'laws.FnExactConflictOf': WHATEVER THE INPUT: true; the input reads as it did. -/
def fnExactConflictOfSpec : ChangeSpec := { name := "fnExactConflictOf", fn := fun _ => fun
  | [d1, d2, d3, d4] => { results := [.lit (.bool true)], args := [d1, d2, d3, d4] }
  | _ => none }
def fnExactConflictOfRow : OpenClaim := { program := "ytpglaffmmddcdaa", sum := "ab8e104f1f894950310d53faa92fcb592809036b2fca13237063f94324928a43", func := "loop.example/g00831/laws.FnExactConflictOf", spec := "fnExactConflictOf", unfollowed := true, recurses := true, apart := false }
def FnExactConflictOfSaid : Prop := fnExactConflictOfRow.holds Try.pinned (OpenSpec.ofChange fnExactConflictOfSpec)

/-- ITS FALSE NEIGHBOUR: 'it returns false'. Refute it at one input. -/
def fnExactConflictOfWrong : ChangeSpec := { name := "fnExactConflictOf", fn := fun _ => fun
  | [d1, d2, d3, d4] => { results := [.lit (.bool false)], args := [d1, d2, d3, d4] }
  | _ => none }
def FnExactConflictOfWrongFalsely : Prop := fnExactConflictOfRow.holds Try.pinned (OpenSpec.ofChange fnExactConflictOfWrong)

/-- 'laws.FnExactConflictName': WHATEVER THE INPUT: true; the input reads as it did. -/
def fnExactConflictNameSpec : ChangeSpec := { name := "fnExactConflictName", fn := fun _ => fun
  | [d] => { results := [.lit (.bool true)], args := [d] }
  | _ => none }
def fnExactConflictNameRow : OpenClaim := { program := "ytpglaffmmddcdaa", sum := "ab8e104f1f894950310d53faa92fcb592809036b2fca13237063f94324928a43", func := "loop.example/g00831/laws.FnExactConflictName", spec := "fnExactConflictName", apart := false }
def FnExactConflictNameSaid : Prop := fnExactConflictNameRow.holds Try.pinned (OpenSpec.ofChange fnExactConflictNameSpec)

/-- ITS FALSE NEIGHBOUR: 'it returns false'. Refute it at one input. -/
def fnExactConflictNameWrong : ChangeSpec := { name := "fnExactConflictName", fn := fun _ => fun
  | [d] => { results := [.lit (.bool false)], args := [d] }
  | _ => none }
def FnExactConflictNameWrongFalsely : Prop := fnExactConflictNameRow.holds Try.pinned (OpenSpec.ofChange fnExactConflictNameWrong)

/-- 'laws.FnExactFirstConflict': WHATEVER THE INPUT: true; the input reads as it did. -/
def fnExactFirstConflictSpec : ChangeSpec := { name := "fnExactFirstConflict", fn := fun _ => fun
  | [d1, d2, d3] => { results := [.lit (.bool true)], args := [d1, d2, d3] }
  | _ => none }
def fnExactFirstConflictRow : OpenClaim := { program := "ytpglaffmmddcdaa", sum := "ab8e104f1f894950310d53faa92fcb592809036b2fca13237063f94324928a43", func := "loop.example/g00831/laws.FnExactFirstConflict", spec := "fnExactFirstConflict", unfollowed := true, recurses := true, apart := false }
def FnExactFirstConflictSaid : Prop := fnExactFirstConflictRow.holds Try.pinned (OpenSpec.ofChange fnExactFirstConflictSpec)

/-- ITS FALSE NEIGHBOUR: 'it returns false'. Refute it at one input. -/
def fnExactFirstConflictWrong : ChangeSpec := { name := "fnExactFirstConflict", fn := fun _ => fun
  | [d1, d2, d3] => { results := [.lit (.bool false)], args := [d1, d2, d3] }
  | _ => none }
def FnExactFirstConflictWrongFalsely : Prop := fnExactFirstConflictRow.holds Try.pinned (OpenSpec.ofChange fnExactFirstConflictWrong)

/-- 'laws.FnExactIsClear': WHATEVER THE INPUT: true; the input reads as it did. -/
def fnExactIsClearSpec : ChangeSpec := { name := "fnExactIsClear", fn := fun _ => fun
  | [d1, d2, d3] => { results := [.lit (.bool true)], args := [d1, d2, d3] }
  | _ => none }
def fnExactIsClearRow : OpenClaim := { program := "ytpglaffmmddcdaa", sum := "ab8e104f1f894950310d53faa92fcb592809036b2fca13237063f94324928a43", func := "loop.example/g00831/laws.FnExactIsClear", spec := "fnExactIsClear", unfollowed := true, recurses := true, apart := false }
def FnExactIsClearSaid : Prop := fnExactIsClearRow.holds Try.pinned (OpenSpec.ofChange fnExactIsClearSpec)

/-- ITS FALSE NEIGHBOUR: 'it returns false'. Refute it at one input. -/
def fnExactIsClearWrong : ChangeSpec := { name := "fnExactIsClear", fn := fun _ => fun
  | [d1, d2, d3] => { results := [.lit (.bool false)], args := [d1, d2, d3] }
  | _ => none }
def FnExactIsClearWrongFalsely : Prop := fnExactIsClearRow.holds Try.pinned (OpenSpec.ofChange fnExactIsClearWrong)

/-- 'laws.FnExactClashes': WHATEVER THE INPUT: true; the input reads as it did. -/
def fnExactClashesSpec : ChangeSpec := { name := "fnExactClashes", fn := fun _ => fun
  | [d1, d2, d3, d4] => { results := [.lit (.bool true)], args := [d1, d2, d3, d4] }
  | _ => none }
def fnExactClashesRow : OpenClaim := { program := "ytpglaffmmddcdaa", sum := "ab8e104f1f894950310d53faa92fcb592809036b2fca13237063f94324928a43", func := "loop.example/g00831/laws.FnExactClashes", spec := "fnExactClashes", unfollowed := true, recurses := true, apart := false }
def FnExactClashesSaid : Prop := fnExactClashesRow.holds Try.pinned (OpenSpec.ofChange fnExactClashesSpec)

/-- ITS FALSE NEIGHBOUR: 'it returns false'. Refute it at one input. -/
def fnExactClashesWrong : ChangeSpec := { name := "fnExactClashes", fn := fun _ => fun
  | [d1, d2, d3, d4] => { results := [.lit (.bool false)], args := [d1, d2, d3, d4] }
  | _ => none }
def FnExactClashesWrongFalsely : Prop := fnExactClashesRow.holds Try.pinned (OpenSpec.ofChange fnExactClashesWrong)

/-- 'laws.FnExactStricterRegime': WHATEVER THE INPUT: true; the input reads as it did. -/
def fnExactStricterRegimeSpec : ChangeSpec := { name := "fnExactStricterRegime", fn := fun _ => fun
  | [d1, d2] => { results := [.lit (.bool true)], args := [d1, d2] }
  | _ => none }
def fnExactStricterRegimeRow : OpenClaim := { program := "ytpglaffmmddcdaa", sum := "ab8e104f1f894950310d53faa92fcb592809036b2fca13237063f94324928a43", func := "loop.example/g00831/laws.FnExactStricterRegime", spec := "fnExactStricterRegime", apart := false }
def FnExactStricterRegimeSaid : Prop := fnExactStricterRegimeRow.holds Try.pinned (OpenSpec.ofChange fnExactStricterRegimeSpec)

/-- ITS FALSE NEIGHBOUR: 'it returns false'. Refute it at one input. -/
def fnExactStricterRegimeWrong : ChangeSpec := { name := "fnExactStricterRegime", fn := fun _ => fun
  | [d1, d2] => { results := [.lit (.bool false)], args := [d1, d2] }
  | _ => none }
def FnExactStricterRegimeWrongFalsely : Prop := fnExactStricterRegimeRow.holds Try.pinned (OpenSpec.ofChange fnExactStricterRegimeWrong)

/- THE SECOND FORM. 'bulk': how many values and letters a reading holds, each counted each time it is reached (what is shared counts as often as it is met; a slice's spare places count too). A statement '..UptoSaid' is the law's where the arguments, and the package variables that the reading takes, are together of bulk at most 1048576: NARROWER than '..Said'. Prove '..Said' where nothing that the law and all that it calls make is longer than what came in: it says more and counts as full. Else prove '..UptoSaid'. A law counts once. -/
mutual
def uptoBulk {H : Type} : DataW H → Nat
  | .lit (.string bytes) => bytes.length + 1
  | .lit _ => 1
  | .nil => 1
  | .ptr d => uptoBulk d + 1
  | .slice elems spare => uptoBulkAll elems + uptoBulkAll spare + 1
  | .agg parts => uptoBulkAll parts + 1
  | .iface _ d => uptoBulk d + 1
  | .map entries => uptoBulkEntries entries + 1
  | .held _ => 1
def uptoBulkAll {H : Type} : List (DataW H) → Nat
  | [] => 0
  | d :: r => uptoBulk d + uptoBulkAll r
def uptoBulkEntries {H : Type} : List (Lit × DataW H) → Nat
  | [] => 0
  | x :: r => uptoBulkEntry x + uptoBulkEntries r
def uptoBulkEntry {H : Type} : Lit × DataW H → Nat
  | (.string bytes, d) => bytes.length + uptoBulk d + 1
  | (_, d) => uptoBulk d + 1
 end
def uptoSmall : (H : Type) → List (DataW H) → Bool := fun _ ds => decide (uptoBulkAll ds ≤ 1048576)
def OpenSpec.upto (s : _root_.Go.ChangeSpec) : _root_.Go.OpenSpec := { _root_.Go.OpenSpec.ofChange s with cond := some uptoSmall }

/-- 'laws.FnConflicts', WHERE WHAT IT READS IS OF BULK AT MOST 1048576: true; the input reads as it did. -/
def fnConflictsUptoRow : OpenClaim := { program := "ytpglaffmmddcdaa", sum := "ab8e104f1f894950310d53faa92fcb592809036b2fca13237063f94324928a43", func := "loop.example/g00831/laws.FnConflicts", spec := "fnConflicts", unfollowed := true, recurses := true, apart := false, narrowed := true }
def FnConflictsUptoSaid : Prop := fnConflictsUptoRow.holds Try.pinned (OpenSpec.upto fnConflictsSpec)

/-- 'laws.FnExactRegimeOk', WHERE WHAT IT READS IS OF BULK AT MOST 1048576: true; the input reads as it did. -/
def fnExactRegimeOkUptoRow : OpenClaim := { program := "ytpglaffmmddcdaa", sum := "ab8e104f1f894950310d53faa92fcb592809036b2fca13237063f94324928a43", func := "loop.example/g00831/laws.FnExactRegimeOk", spec := "fnExactRegimeOk", apart := false, narrowed := true }
def FnExactRegimeOkUptoSaid : Prop := fnExactRegimeOkUptoRow.holds Try.pinned (OpenSpec.upto fnExactRegimeOkSpec)

/-- 'laws.FnExactOverlaps', WHERE WHAT IT READS IS OF BULK AT MOST 1048576: true; the input reads as it did. -/
def fnExactOverlapsUptoRow : OpenClaim := { program := "ytpglaffmmddcdaa", sum := "ab8e104f1f894950310d53faa92fcb592809036b2fca13237063f94324928a43", func := "loop.example/g00831/laws.FnExactOverlaps", spec := "fnExactOverlaps", apart := false, narrowed := true }
def FnExactOverlapsUptoSaid : Prop := fnExactOverlapsUptoRow.holds Try.pinned (OpenSpec.upto fnExactOverlapsSpec)

/-- 'laws.FnExactConflictOf', WHERE WHAT IT READS IS OF BULK AT MOST 1048576: true; the input reads as it did. -/
def fnExactConflictOfUptoRow : OpenClaim := { program := "ytpglaffmmddcdaa", sum := "ab8e104f1f894950310d53faa92fcb592809036b2fca13237063f94324928a43", func := "loop.example/g00831/laws.FnExactConflictOf", spec := "fnExactConflictOf", unfollowed := true, recurses := true, apart := false, narrowed := true }
def FnExactConflictOfUptoSaid : Prop := fnExactConflictOfUptoRow.holds Try.pinned (OpenSpec.upto fnExactConflictOfSpec)

/-- 'laws.FnExactConflictName', WHERE WHAT IT READS IS OF BULK AT MOST 1048576: true; the input reads as it did. -/
def fnExactConflictNameUptoRow : OpenClaim := { program := "ytpglaffmmddcdaa", sum := "ab8e104f1f894950310d53faa92fcb592809036b2fca13237063f94324928a43", func := "loop.example/g00831/laws.FnExactConflictName", spec := "fnExactConflictName", apart := false, narrowed := true }
def FnExactConflictNameUptoSaid : Prop := fnExactConflictNameUptoRow.holds Try.pinned (OpenSpec.upto fnExactConflictNameSpec)

/-- 'laws.FnExactFirstConflict', WHERE WHAT IT READS IS OF BULK AT MOST 1048576: true; the input reads as it did. -/
def fnExactFirstConflictUptoRow : OpenClaim := { program := "ytpglaffmmddcdaa", sum := "ab8e104f1f894950310d53faa92fcb592809036b2fca13237063f94324928a43", func := "loop.example/g00831/laws.FnExactFirstConflict", spec := "fnExactFirstConflict", unfollowed := true, recurses := true, apart := false, narrowed := true }
def FnExactFirstConflictUptoSaid : Prop := fnExactFirstConflictUptoRow.holds Try.pinned (OpenSpec.upto fnExactFirstConflictSpec)

/-- 'laws.FnExactIsClear', WHERE WHAT IT READS IS OF BULK AT MOST 1048576: true; the input reads as it did. -/
def fnExactIsClearUptoRow : OpenClaim := { program := "ytpglaffmmddcdaa", sum := "ab8e104f1f894950310d53faa92fcb592809036b2fca13237063f94324928a43", func := "loop.example/g00831/laws.FnExactIsClear", spec := "fnExactIsClear", unfollowed := true, recurses := true, apart := false, narrowed := true }
def FnExactIsClearUptoSaid : Prop := fnExactIsClearUptoRow.holds Try.pinned (OpenSpec.upto fnExactIsClearSpec)

/-- 'laws.FnExactClashes', WHERE WHAT IT READS IS OF BULK AT MOST 1048576: true; the input reads as it did. -/
def fnExactClashesUptoRow : OpenClaim := { program := "ytpglaffmmddcdaa", sum := "ab8e104f1f894950310d53faa92fcb592809036b2fca13237063f94324928a43", func := "loop.example/g00831/laws.FnExactClashes", spec := "fnExactClashes", unfollowed := true, recurses := true, apart := false, narrowed := true }
def FnExactClashesUptoSaid : Prop := fnExactClashesUptoRow.holds Try.pinned (OpenSpec.upto fnExactClashesSpec)

/-- 'laws.FnExactStricterRegime', WHERE WHAT IT READS IS OF BULK AT MOST 1048576: true; the input reads as it did. -/
def fnExactStricterRegimeUptoRow : OpenClaim := { program := "ytpglaffmmddcdaa", sum := "ab8e104f1f894950310d53faa92fcb592809036b2fca13237063f94324928a43", func := "loop.example/g00831/laws.FnExactStricterRegime", spec := "fnExactStricterRegime", apart := false, narrowed := true }
def FnExactStricterRegimeUptoSaid : Prop := fnExactStricterRegimeUptoRow.holds Try.pinned (OpenSpec.upto fnExactStricterRegimeSpec)

end Rows
end Go.Proofs.Ytpglaffmmddcdaa
