/-
  No cell of these rows narrows 'for every input' (looked for: loops, veiled, ifaces, maps, wideKeys, modest, calm, conditions, laid).
  DERIVED. THE GIVEN ROWS OF THIS SEAT. 5 by the template 'for every input the law returns true; each argument reads behind the call as it read before'; 0 by the template 'total and deterministic' (their statements: YtpimcbhjkednpaaTotals.lean).
  GIVEN WITH THE SEED: the statements are not yours to turn. If you find one false, say at which input.
  Laid BY PROGRAM, IN A SANDBOX (cutbox-rows.mjs): the forced cells as the released guide's own fill.sh prints them over the translation 107b27bd107b82fc… (all of the seat's roots in one cut). By AI agents, Wed Nov 11 2026. No macro, syntax, notation, axiom, sorry.
-/
import Derived.Test.YtpimcbhjkednpaaChecked
import GoSem.Claim
import GoSem.ClaimJoined
import GoSem.ClaimMapViews
import Derived.JoinedTies
import Derived.KernelRfl
namespace Go.Proofs.Ytpimcbhjkednpaa
/- THE CELL 'sum', in the pinned program and in every row, IS THE sha256 OF THE DUMP (.gsa) THAT YtpimcbhjkednpaaProg.lean LOADS. Nothing in Lean hashes anything: it is a label: what it is worth is what the hold of that sum in a sandbox is worth. -/
noncomputable def Try.pinned : Pinned := { name := "ytpimcbhjkednpaa", sum := "107b27bd107b82fcb62162de0a37f6ffe7854c35b58a548f9e95f01b2c6028f7", checked := Try.checked }
namespace Rows
def none {H : Type} : Left H := { results := [], args := [] }

/-- 'laws.FnAfloat': WHATEVER THE INPUT: true; the input reads as it did. -/
def fnAfloatSpec : ChangeSpec := { name := "fnAfloat", fn := fun _ => fun
  | [d] => { results := [.lit (.bool true)], args := [d] }
  | _ => none }
def fnAfloatRow : OpenClaim := { program := "ytpimcbhjkednpaa", sum := "107b27bd107b82fcb62162de0a37f6ffe7854c35b58a548f9e95f01b2c6028f7", func := "loop.example/g00831/laws.FnAfloat", spec := "fnAfloat", unfollowed := true, recurses := true, apart := false }
def FnAfloatSaid : Prop := fnAfloatRow.holds Try.pinned (OpenSpec.ofChange fnAfloatSpec)

/-- ITS FALSE NEIGHBOUR: 'it returns false'. Refute it at one input. -/
def fnAfloatWrong : ChangeSpec := { name := "fnAfloat", fn := fun _ => fun
  | [d] => { results := [.lit (.bool false)], args := [d] }
  | _ => none }
def FnAfloatWrongFalsely : Prop := fnAfloatRow.holds Try.pinned (OpenSpec.ofChange fnAfloatWrong)

/-- 'laws.FnExactMinutesOn': WHATEVER THE INPUT: true; the input reads as it did. -/
def fnExactMinutesOnSpec : ChangeSpec := { name := "fnExactMinutesOn", fn := fun _ => fun
  | [d1, d2, d3] => { results := [.lit (.bool true)], args := [d1, d2, d3] }
  | _ => none }
def fnExactMinutesOnRow : OpenClaim := { program := "ytpimcbhjkednpaa", sum := "107b27bd107b82fcb62162de0a37f6ffe7854c35b58a548f9e95f01b2c6028f7", func := "loop.example/g00831/laws.FnExactMinutesOn", spec := "fnExactMinutesOn", unfollowed := true, recurses := true, apart := false }
def FnExactMinutesOnSaid : Prop := fnExactMinutesOnRow.holds Try.pinned (OpenSpec.ofChange fnExactMinutesOnSpec)

/-- ITS FALSE NEIGHBOUR: 'it returns false'. Refute it at one input. -/
def fnExactMinutesOnWrong : ChangeSpec := { name := "fnExactMinutesOn", fn := fun _ => fun
  | [d1, d2, d3] => { results := [.lit (.bool false)], args := [d1, d2, d3] }
  | _ => none }
def FnExactMinutesOnWrongFalsely : Prop := fnExactMinutesOnRow.holds Try.pinned (OpenSpec.ofChange fnExactMinutesOnWrong)

/-- 'laws.FnExactNeedOf': WHATEVER THE INPUT: true; the input reads as it did. -/
def fnExactNeedOfSpec : ChangeSpec := { name := "fnExactNeedOf", fn := fun _ => fun
  | [d] => { results := [.lit (.bool true)], args := [d] }
  | _ => none }
def fnExactNeedOfRow : OpenClaim := { program := "ytpimcbhjkednpaa", sum := "107b27bd107b82fcb62162de0a37f6ffe7854c35b58a548f9e95f01b2c6028f7", func := "loop.example/g00831/laws.FnExactNeedOf", spec := "fnExactNeedOf", apart := false }
def FnExactNeedOfSaid : Prop := fnExactNeedOfRow.holds Try.pinned (OpenSpec.ofChange fnExactNeedOfSpec)

/-- ITS FALSE NEIGHBOUR: 'it returns false'. Refute it at one input. -/
def fnExactNeedOfWrong : ChangeSpec := { name := "fnExactNeedOf", fn := fun _ => fun
  | [d] => { results := [.lit (.bool false)], args := [d] }
  | _ => none }
def FnExactNeedOfWrongFalsely : Prop := fnExactNeedOfRow.holds Try.pinned (OpenSpec.ofChange fnExactNeedOfWrong)

/-- 'laws.FnExactLevelFor': WHATEVER THE INPUT: true; the input reads as it did. -/
def fnExactLevelForSpec : ChangeSpec := { name := "fnExactLevelFor", fn := fun _ => fun
  | [d1, d2, d3] => { results := [.lit (.bool true)], args := [d1, d2, d3] }
  | _ => none }
def fnExactLevelForRow : OpenClaim := { program := "ytpimcbhjkednpaa", sum := "107b27bd107b82fcb62162de0a37f6ffe7854c35b58a548f9e95f01b2c6028f7", func := "loop.example/g00831/laws.FnExactLevelFor", spec := "fnExactLevelFor", unfollowed := true, recurses := true, apart := false }
def FnExactLevelForSaid : Prop := fnExactLevelForRow.holds Try.pinned (OpenSpec.ofChange fnExactLevelForSpec)

/-- ITS FALSE NEIGHBOUR: 'it returns false'. Refute it at one input. -/
def fnExactLevelForWrong : ChangeSpec := { name := "fnExactLevelFor", fn := fun _ => fun
  | [d1, d2, d3] => { results := [.lit (.bool false)], args := [d1, d2, d3] }
  | _ => none }
def FnExactLevelForWrongFalsely : Prop := fnExactLevelForRow.holds Try.pinned (OpenSpec.ofChange fnExactLevelForWrong)

/-- 'laws.FnExactIsAfloat': WHATEVER THE INPUT: true; the input reads as it did. -/
def fnExactIsAfloatSpec : ChangeSpec := { name := "fnExactIsAfloat", fn := fun _ => fun
  | [d1, d2, d3, d4] => { results := [.lit (.bool true)], args := [d1, d2, d3, d4] }
  | _ => none }
def fnExactIsAfloatRow : OpenClaim := { program := "ytpimcbhjkednpaa", sum := "107b27bd107b82fcb62162de0a37f6ffe7854c35b58a548f9e95f01b2c6028f7", func := "loop.example/g00831/laws.FnExactIsAfloat", spec := "fnExactIsAfloat", unfollowed := true, recurses := true, apart := false }
def FnExactIsAfloatSaid : Prop := fnExactIsAfloatRow.holds Try.pinned (OpenSpec.ofChange fnExactIsAfloatSpec)

/-- ITS FALSE NEIGHBOUR: 'it returns false'. Refute it at one input. -/
def fnExactIsAfloatWrong : ChangeSpec := { name := "fnExactIsAfloat", fn := fun _ => fun
  | [d1, d2, d3, d4] => { results := [.lit (.bool false)], args := [d1, d2, d3, d4] }
  | _ => none }
def FnExactIsAfloatWrongFalsely : Prop := fnExactIsAfloatRow.holds Try.pinned (OpenSpec.ofChange fnExactIsAfloatWrong)

/- THE SECOND FORM. 'bulk': how many values and letters a reading holds, each counted each time it is reached (what is shared counts as often as it is met; a slice's spare places count too). A statement '..UptoSaid' is the law's where the arguments, and the package variables that the reading takes, are together of bulk at most 1048576: NARROWER than '..Said'. Prove '..Said' where nothing that the law and all that it calls make is longer than what came in: it says more and counts as full. Else prove '..UptoSaid'. A law counts once. -/
mutual
def uptoBulk {H : Type} : DataW H → Nat
  | .lit (.string bytes) => bytes.length + 1
  | .lit _ => 1
  | .nil => 1
  | .ptr d => uptoBulk d + 1
  | .slice elems spare => uptoBulkAll elems + uptoBulkAll spare + 1
  | .agg parts => uptoBulkAll parts + 1
  | .iface _ d => uptoBulk d + 1
  | .map entries => uptoBulkEntries entries + 1
  | .held _ => 1
def uptoBulkAll {H : Type} : List (DataW H) → Nat
  | [] => 0
  | d :: r => uptoBulk d + uptoBulkAll r
def uptoBulkEntries {H : Type} : List (Lit × DataW H) → Nat
  | [] => 0
  | x :: r => uptoBulkEntry x + uptoBulkEntries r
def uptoBulkEntry {H : Type} : Lit × DataW H → Nat
  | (.string bytes, d) => bytes.length + uptoBulk d + 1
  | (_, d) => uptoBulk d + 1
 end
def uptoSmall : (H : Type) → List (DataW H) → Bool := fun _ ds => decide (uptoBulkAll ds ≤ 1048576)
def OpenSpec.upto (s : _root_.Go.ChangeSpec) : _root_.Go.OpenSpec := { _root_.Go.OpenSpec.ofChange s with cond := some uptoSmall }

/-- 'laws.FnAfloat', WHERE WHAT IT READS IS OF BULK AT MOST 1048576: true; the input reads as it did. -/
def fnAfloatUptoRow : OpenClaim := { program := "ytpimcbhjkednpaa", sum := "107b27bd107b82fcb62162de0a37f6ffe7854c35b58a548f9e95f01b2c6028f7", func := "loop.example/g00831/laws.FnAfloat", spec := "fnAfloat", unfollowed := true, recurses := true, apart := false, narrowed := true }
def FnAfloatUptoSaid : Prop := fnAfloatUptoRow.holds Try.pinned (OpenSpec.upto fnAfloatSpec)

/-- 'laws.FnExactMinutesOn', WHERE WHAT IT READS IS OF BULK AT MOST 1048576: true; the input reads as it did. -/
def fnExactMinutesOnUptoRow : OpenClaim := { program := "ytpimcbhjkednpaa", sum := "107b27bd107b82fcb62162de0a37f6ffe7854c35b58a548f9e95f01b2c6028f7", func := "loop.example/g00831/laws.FnExactMinutesOn", spec := "fnExactMinutesOn", unfollowed := true, recurses := true, apart := false, narrowed := true }
def FnExactMinutesOnUptoSaid : Prop := fnExactMinutesOnUptoRow.holds Try.pinned (OpenSpec.upto fnExactMinutesOnSpec)

/-- 'laws.FnExactNeedOf', WHERE WHAT IT READS IS OF BULK AT MOST 1048576: true; the input reads as it did. -/
def fnExactNeedOfUptoRow : OpenClaim := { program := "ytpimcbhjkednpaa", sum := "107b27bd107b82fcb62162de0a37f6ffe7854c35b58a548f9e95f01b2c6028f7", func := "loop.example/g00831/laws.FnExactNeedOf", spec := "fnExactNeedOf", apart := false, narrowed := true }
def FnExactNeedOfUptoSaid : Prop := fnExactNeedOfUptoRow.holds Try.pinned (OpenSpec.upto fnExactNeedOfSpec)

/-- 'laws.FnExactLevelFor', WHERE WHAT IT READS IS OF BULK AT MOST 1048576: true; the input reads as it did. -/
def fnExactLevelForUptoRow : OpenClaim := { program := "ytpimcbhjkednpaa", sum := "107b27bd107b82fcb62162de0a37f6ffe7854c35b58a548f9e95f01b2c6028f7", func := "loop.example/g00831/laws.FnExactLevelFor", spec := "fnExactLevelFor", unfollowed := true, recurses := true, apart := false, narrowed := true }
def FnExactLevelForUptoSaid : Prop := fnExactLevelForUptoRow.holds Try.pinned (OpenSpec.upto fnExactLevelForSpec)

/-- 'laws.FnExactIsAfloat', WHERE WHAT IT READS IS OF BULK AT MOST 1048576: true; the input reads as it did. -/
def fnExactIsAfloatUptoRow : OpenClaim := { program := "ytpimcbhjkednpaa", sum := "107b27bd107b82fcb62162de0a37f6ffe7854c35b58a548f9e95f01b2c6028f7", func := "loop.example/g00831/laws.FnExactIsAfloat", spec := "fnExactIsAfloat", unfollowed := true, recurses := true, apart := false, narrowed := true }
def FnExactIsAfloatUptoSaid : Prop := fnExactIsAfloatUptoRow.holds Try.pinned (OpenSpec.upto fnExactIsAfloatSpec)

end Rows
end Go.Proofs.Ytpimcbhjkednpaa
