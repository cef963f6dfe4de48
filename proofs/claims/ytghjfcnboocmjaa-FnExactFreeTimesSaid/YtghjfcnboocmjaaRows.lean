/-
  No cell of these rows narrows 'for every input' (looked for: loops, veiled, ifaces, maps, wideKeys, modest, calm, conditions, laid).
  DERIVED. THE GIVEN ROWS OF THIS SEAT. 8 by the template 'for every input the law returns true; each argument reads behind the call as it read before'; 0 by the template 'total and deterministic' (their statements: YtghjfcnboocmjaaTotals.lean).
  GIVEN WITH THE SEED: the statements are not yours to turn. If you find one false, say at which input.
  Laid BY PROGRAM, IN A SANDBOX (cutbox-rows.mjs): the forced cells as the released guide's own fill.sh prints them over the translation 716ff6ff67c6513b… (all of the seat's roots in one cut). By AI agents, Wed Nov 11 2026. No macro, syntax, notation, axiom, sorry.
-/
import Derived.Test.YtghjfcnboocmjaaChecked
import GoSem.Claim
import GoSem.ClaimJoined
import GoSem.ClaimMapViews
import Derived.JoinedTies
import Derived.KernelRfl
namespace Go.Proofs.Ytghjfcnboocmjaa
/- THE CELL 'sum', in the pinned program and in every row, IS THE sha256 OF THE DUMP (.gsa) THAT YtghjfcnboocmjaaProg.lean LOADS. Nothing in Lean hashes anything: it is a label: what it is worth is what the hold of that sum in a sandbox is worth. -/
noncomputable def Try.pinned : Pinned := { name := "ytghjfcnboocmjaa", sum := "716ff6ff67c6513bd72bbfba5b9ebf66a4150935bc35e9ddbfbf793517974d86", checked := Try.checked }
namespace Rows
def none {H : Type} : Left H := { results := [], args := [] }

/-- 'laws.FnBerths': WHATEVER THE INPUT: true; the input reads as it did. -/
def fnBerthsSpec : ChangeSpec := { name := "fnBerths", fn := fun _ => fun
  | [d] => { results := [.lit (.bool true)], args := [d] }
  | _ => none }
def fnBerthsRow : OpenClaim := { program := "ytghjfcnboocmjaa", sum := "716ff6ff67c6513bd72bbfba5b9ebf66a4150935bc35e9ddbfbf793517974d86", func := "loop.example/g00831/laws.FnBerths", spec := "fnBerths", unfollowed := true, recurses := true, apart := false }
def FnBerthsSaid : Prop := fnBerthsRow.holds Try.pinned (OpenSpec.ofChange fnBerthsSpec)

/-- ITS FALSE NEIGHBOUR: 'it returns false'. Refute it at one input. -/
def fnBerthsWrong : ChangeSpec := { name := "fnBerths", fn := fun _ => fun
  | [d] => { results := [.lit (.bool false)], args := [d] }
  | _ => none }
def FnBerthsWrongFalsely : Prop := fnBerthsRow.holds Try.pinned (OpenSpec.ofChange fnBerthsWrong)

/-- 'laws.FnExactBerthsOk': WHATEVER THE INPUT: true; the input reads as it did. -/
def fnExactBerthsOkSpec : ChangeSpec := { name := "fnExactBerthsOk", fn := fun _ => fun
  | [d] => { results := [.lit (.bool true)], args := [d] }
  | _ => none }
def fnExactBerthsOkRow : OpenClaim := { program := "ytghjfcnboocmjaa", sum := "716ff6ff67c6513bd72bbfba5b9ebf66a4150935bc35e9ddbfbf793517974d86", func := "loop.example/g00831/laws.FnExactBerthsOk", spec := "fnExactBerthsOk", unfollowed := true, recurses := true, apart := false }
def FnExactBerthsOkSaid : Prop := fnExactBerthsOkRow.holds Try.pinned (OpenSpec.ofChange fnExactBerthsOkSpec)

/-- ITS FALSE NEIGHBOUR: 'it returns false'. Refute it at one input. -/
def fnExactBerthsOkWrong : ChangeSpec := { name := "fnExactBerthsOk", fn := fun _ => fun
  | [d] => { results := [.lit (.bool false)], args := [d] }
  | _ => none }
def FnExactBerthsOkWrongFalsely : Prop := fnExactBerthsOkRow.holds Try.pinned (OpenSpec.ofChange fnExactBerthsOkWrong)

/-- 'laws.FnExactFitsBerth': WHATEVER THE INPUT: true; the input reads as it did. -/
def fnExactFitsBerthSpec : ChangeSpec := { name := "fnExactFitsBerth", fn := fun _ => fun
  | [d1, d2] => { results := [.lit (.bool true)], args := [d1, d2] }
  | _ => none }
def fnExactFitsBerthRow : OpenClaim := { program := "ytghjfcnboocmjaa", sum := "716ff6ff67c6513bd72bbfba5b9ebf66a4150935bc35e9ddbfbf793517974d86", func := "loop.example/g00831/laws.FnExactFitsBerth", spec := "fnExactFitsBerth", apart := false }
def FnExactFitsBerthSaid : Prop := fnExactFitsBerthRow.holds Try.pinned (OpenSpec.ofChange fnExactFitsBerthSpec)

/-- ITS FALSE NEIGHBOUR: 'it returns false'. Refute it at one input. -/
def fnExactFitsBerthWrong : ChangeSpec := { name := "fnExactFitsBerth", fn := fun _ => fun
  | [d1, d2] => { results := [.lit (.bool false)], args := [d1, d2] }
  | _ => none }
def FnExactFitsBerthWrongFalsely : Prop := fnExactFitsBerthRow.holds Try.pinned (OpenSpec.ofChange fnExactFitsBerthWrong)

/-- 'laws.FnExactStaysOk': WHATEVER THE INPUT: true; the input reads as it did. -/
def fnExactStaysOkSpec : ChangeSpec := { name := "fnExactStaysOk", fn := fun _ => fun
  | [d1, d2, d3] => { results := [.lit (.bool true)], args := [d1, d2, d3] }
  | _ => none }
def fnExactStaysOkRow : OpenClaim := { program := "ytghjfcnboocmjaa", sum := "716ff6ff67c6513bd72bbfba5b9ebf66a4150935bc35e9ddbfbf793517974d86", func := "loop.example/g00831/laws.FnExactStaysOk", spec := "fnExactStaysOk", unfollowed := true, recurses := true, apart := false }
def FnExactStaysOkSaid : Prop := fnExactStaysOkRow.holds Try.pinned (OpenSpec.ofChange fnExactStaysOkSpec)

/-- ITS FALSE NEIGHBOUR: 'it returns false'. Refute it at one input. -/
def fnExactStaysOkWrong : ChangeSpec := { name := "fnExactStaysOk", fn := fun _ => fun
  | [d1, d2, d3] => { results := [.lit (.bool false)], args := [d1, d2, d3] }
  | _ => none }
def FnExactStaysOkWrongFalsely : Prop := fnExactStaysOkRow.holds Try.pinned (OpenSpec.ofChange fnExactStaysOkWrong)

/-- 'laws.FnExactFreeTimes': WHATEVER THE INPUT: true; the input reads as it did. -/
def fnExactFreeTimesSpec : ChangeSpec := { name := "fnExactFreeTimes", fn := fun _ => fun
  | [d1, d2, d3] => { results := [.lit (.bool true)], args := [d1, d2, d3] }
  | _ => none }
def fnExactFreeTimesRow : OpenClaim := { program := "ytghjfcnboocmjaa", sum := "716ff6ff67c6513bd72bbfba5b9ebf66a4150935bc35e9ddbfbf793517974d86", func := "loop.example/g00831/laws.FnExactFreeTimes", spec := "fnExactFreeTimes", unfollowed := true, recurses := true, apart := false }
def FnExactFreeTimesSaid : Prop := fnExactFreeTimesRow.holds Try.pinned (OpenSpec.ofChange fnExactFreeTimesSpec)

/-- ITS FALSE NEIGHBOUR: 'it returns false'. Refute it at one input. -/
def fnExactFreeTimesWrong : ChangeSpec := { name := "fnExactFreeTimes", fn := fun _ => fun
  | [d1, d2, d3] => { results := [.lit (.bool false)], args := [d1, d2, d3] }
  | _ => none }
def FnExactFreeTimesWrongFalsely : Prop := fnExactFreeTimesRow.holds Try.pinned (OpenSpec.ofChange fnExactFreeTimesWrong)

/-- 'laws.FnExactFindBerth': WHATEVER THE INPUT: true; the input reads as it did. -/
def fnExactFindBerthSpec : ChangeSpec := { name := "fnExactFindBerth", fn := fun _ => fun
  | [d1, d2, d3, d4, d5, d6] => { results := [.lit (.bool true)], args := [d1, d2, d3, d4, d5, d6] }
  | _ => none }
def fnExactFindBerthRow : OpenClaim := { program := "ytghjfcnboocmjaa", sum := "716ff6ff67c6513bd72bbfba5b9ebf66a4150935bc35e9ddbfbf793517974d86", func := "loop.example/g00831/laws.FnExactFindBerth", spec := "fnExactFindBerth", unfollowed := true, recurses := true, apart := false }
def FnExactFindBerthSaid : Prop := fnExactFindBerthRow.holds Try.pinned (OpenSpec.ofChange fnExactFindBerthSpec)

/-- ITS FALSE NEIGHBOUR: 'it returns false'. Refute it at one input. -/
def fnExactFindBerthWrong : ChangeSpec := { name := "fnExactFindBerth", fn := fun _ => fun
  | [d1, d2, d3, d4, d5, d6] => { results := [.lit (.bool false)], args := [d1, d2, d3, d4, d5, d6] }
  | _ => none }
def FnExactFindBerthWrongFalsely : Prop := fnExactFindBerthRow.holds Try.pinned (OpenSpec.ofChange fnExactFindBerthWrong)

/-- 'laws.FnExactAllotBerths': WHATEVER THE INPUT: true; the input reads as it did. -/
def fnExactAllotBerthsSpec : ChangeSpec := { name := "fnExactAllotBerths", fn := fun _ => fun
  | [d1, d2, d3] => { results := [.lit (.bool true)], args := [d1, d2, d3] }
  | _ => none }
def fnExactAllotBerthsRow : OpenClaim := { program := "ytghjfcnboocmjaa", sum := "716ff6ff67c6513bd72bbfba5b9ebf66a4150935bc35e9ddbfbf793517974d86", func := "loop.example/g00831/laws.FnExactAllotBerths", spec := "fnExactAllotBerths", unfollowed := true, recurses := true, apart := false }
def FnExactAllotBerthsSaid : Prop := fnExactAllotBerthsRow.holds Try.pinned (OpenSpec.ofChange fnExactAllotBerthsSpec)

/-- ITS FALSE NEIGHBOUR: 'it returns false'. Refute it at one input. -/
def fnExactAllotBerthsWrong : ChangeSpec := { name := "fnExactAllotBerths", fn := fun _ => fun
  | [d1, d2, d3] => { results := [.lit (.bool false)], args := [d1, d2, d3] }
  | _ => none }
def FnExactAllotBerthsWrongFalsely : Prop := fnExactAllotBerthsRow.holds Try.pinned (OpenSpec.ofChange fnExactAllotBerthsWrong)

/-- 'laws.FnExactBerthLoad': WHATEVER THE INPUT: true; the input reads as it did. -/
def fnExactBerthLoadSpec : ChangeSpec := { name := "fnExactBerthLoad", fn := fun _ => fun
  | [d1, d2] => { results := [.lit (.bool true)], args := [d1, d2] }
  | _ => none }
def fnExactBerthLoadRow : OpenClaim := { program := "ytghjfcnboocmjaa", sum := "716ff6ff67c6513bd72bbfba5b9ebf66a4150935bc35e9ddbfbf793517974d86", func := "loop.example/g00831/laws.FnExactBerthLoad", spec := "fnExactBerthLoad", apart := false }
def FnExactBerthLoadSaid : Prop := fnExactBerthLoadRow.holds Try.pinned (OpenSpec.ofChange fnExactBerthLoadSpec)

/-- ITS FALSE NEIGHBOUR: 'it returns false'. Refute it at one input. -/
def fnExactBerthLoadWrong : ChangeSpec := { name := "fnExactBerthLoad", fn := fun _ => fun
  | [d1, d2] => { results := [.lit (.bool false)], args := [d1, d2] }
  | _ => none }
def FnExactBerthLoadWrongFalsely : Prop := fnExactBerthLoadRow.holds Try.pinned (OpenSpec.ofChange fnExactBerthLoadWrong)

/- THE SECOND FORM. 'bulk': how many values and letters a reading holds, each counted each time it is reached (what is shared counts as often as it is met; a slice's spare places count too). A statement '..UptoSaid' is the law's where the arguments, and the package variables that the reading takes, are together of bulk at most 1048576: NARROWER than '..Said'. Prove '..Said' where nothing that the law and all that it calls make is longer than what came in: it says more and counts as full. Else prove '..UptoSaid'. A law counts once. -/
mutual
def uptoBulk {H : Type} : DataW H → Nat
  | .lit (.string bytes) => bytes.length + 1
  | .lit _ => 1
  | .nil => 1
  | .ptr d => uptoBulk d + 1
  | .slice elems spare => uptoBulkAll elems + uptoBulkAll spare + 1
  | .agg parts => uptoBulkAll parts + 1
  | .iface _ d => uptoBulk d + 1
  | .map entries => uptoBulkEntries entries + 1
  | .held _ => 1
def uptoBulkAll {H : Type} : List (DataW H) → Nat
  | [] => 0
  | d :: r => uptoBulk d + uptoBulkAll r
def uptoBulkEntries {H : Type} : List (Lit × DataW H) → Nat
  | [] => 0
  | x :: r => uptoBulkEntry x + uptoBulkEntries r
def uptoBulkEntry {H : Type} : Lit × DataW H → Nat
  | (.string bytes, d) => bytes.length + uptoBulk d + 1
  | (_, d) => uptoBulk d + 1
 end
def uptoSmall : (H : Type) → List (DataW H) → Bool := fun _ ds => decide (uptoBulkAll ds ≤ 1048576)
def OpenSpec.upto (s : _root_.Go.ChangeSpec) : _root_.Go.OpenSpec := { _root_.Go.OpenSpec.ofChange s with cond := some uptoSmall }

/-- 'laws.FnBerths', WHERE WHAT IT READS IS OF BULK AT MOST 1048576: true; the input reads as it did. -/
def fnBerthsUptoRow : OpenClaim := { program := "ytghjfcnboocmjaa", sum := "716ff6ff67c6513bd72bbfba5b9ebf66a4150935bc35e9ddbfbf793517974d86", func := "loop.example/g00831/laws.FnBerths", spec := "fnBerths", unfollowed := true, recurses := true, apart := false, narrowed := true }
def FnBerthsUptoSaid : Prop := fnBerthsUptoRow.holds Try.pinned (OpenSpec.upto fnBerthsSpec)

/-- 'laws.FnExactBerthsOk', WHERE WHAT IT READS IS OF BULK AT MOST 1048576: true; the input reads as it did. -/
def fnExactBerthsOkUptoRow : OpenClaim := { program := "ytghjfcnboocmjaa", sum := "716ff6ff67c6513bd72bbfba5b9ebf66a4150935bc35e9ddbfbf793517974d86", func := "loop.example/g00831/laws.FnExactBerthsOk", spec := "fnExactBerthsOk", unfollowed := true, recurses := true, apart := false, narrowed := true }
def FnExactBerthsOkUptoSaid : Prop := fnExactBerthsOkUptoRow.holds Try.pinned (OpenSpec.upto fnExactBerthsOkSpec)

/-- 'laws.FnExactFitsBerth', WHERE WHAT IT READS IS OF BULK AT MOST 1048576: true; the input reads as it did. -/
def fnExactFitsBerthUptoRow : OpenClaim := { program := "ytghjfcnboocmjaa", sum := "716ff6ff67c6513bd72bbfba5b9ebf66a4150935bc35e9ddbfbf793517974d86", func := "loop.example/g00831/laws.FnExactFitsBerth", spec := "fnExactFitsBerth", apart := false, narrowed := true }
def FnExactFitsBerthUptoSaid : Prop := fnExactFitsBerthUptoRow.holds Try.pinned (OpenSpec.upto fnExactFitsBerthSpec)

/-- 'laws.FnExactStaysOk', WHERE WHAT IT READS IS OF BULK AT MOST 1048576: true; the input reads as it did. -/
def fnExactStaysOkUptoRow : OpenClaim := { program := "ytghjfcnboocmjaa", sum := "716ff6ff67c6513bd72bbfba5b9ebf66a4150935bc35e9ddbfbf793517974d86", func := "loop.example/g00831/laws.FnExactStaysOk", spec := "fnExactStaysOk", unfollowed := true, recurses := true, apart := false, narrowed := true }
def FnExactStaysOkUptoSaid : Prop := fnExactStaysOkUptoRow.holds Try.pinned (OpenSpec.upto fnExactStaysOkSpec)

/-- 'laws.FnExactFreeTimes', WHERE WHAT IT READS IS OF BULK AT MOST 1048576: true; the input reads as it did. -/
def fnExactFreeTimesUptoRow : OpenClaim := { program := "ytghjfcnboocmjaa", sum := "716ff6ff67c6513bd72bbfba5b9ebf66a4150935bc35e9ddbfbf793517974d86", func := "loop.example/g00831/laws.FnExactFreeTimes", spec := "fnExactFreeTimes", unfollowed := true, recurses := true, apart := false, narrowed := true }
def FnExactFreeTimesUptoSaid : Prop := fnExactFreeTimesUptoRow.holds Try.pinned (OpenSpec.upto fnExactFreeTimesSpec)

/-- 'laws.FnExactFindBerth', WHERE WHAT IT READS IS OF BULK AT MOST 1048576: true; the input reads as it did. -/
def fnExactFindBerthUptoRow : OpenClaim := { program := "ytghjfcnboocmjaa", sum := "716ff6ff67c6513bd72bbfba5b9ebf66a4150935bc35e9ddbfbf793517974d86", func := "loop.example/g00831/laws.FnExactFindBerth", spec := "fnExactFindBerth", unfollowed := true, recurses := true, apart := false, narrowed := true }
def FnExactFindBerthUptoSaid : Prop := fnExactFindBerthUptoRow.holds Try.pinned (OpenSpec.upto fnExactFindBerthSpec)

/-- 'laws.FnExactAllotBerths', WHERE WHAT IT READS IS OF BULK AT MOST 1048576: true; the input reads as it did. -/
def fnExactAllotBerthsUptoRow : OpenClaim := { program := "ytghjfcnboocmjaa", sum := "716ff6ff67c6513bd72bbfba5b9ebf66a4150935bc35e9ddbfbf793517974d86", func := "loop.example/g00831/laws.FnExactAllotBerths", spec := "fnExactAllotBerths", unfollowed := true, recurses := true, apart := false, narrowed := true }
def FnExactAllotBerthsUptoSaid : Prop := fnExactAllotBerthsUptoRow.holds Try.pinned (OpenSpec.upto fnExactAllotBerthsSpec)

/-- 'laws.FnExactBerthLoad', WHERE WHAT IT READS IS OF BULK AT MOST 1048576: true; the input reads as it did. -/
def fnExactBerthLoadUptoRow : OpenClaim := { program := "ytghjfcnboocmjaa", sum := "716ff6ff67c6513bd72bbfba5b9ebf66a4150935bc35e9ddbfbf793517974d86", func := "loop.example/g00831/laws.FnExactBerthLoad", spec := "fnExactBerthLoad", apart := false, narrowed := true }
def FnExactBerthLoadUptoSaid : Prop := fnExactBerthLoadUptoRow.holds Try.pinned (OpenSpec.upto fnExactBerthLoadSpec)

end Rows
end Go.Proofs.Ytghjfcnboocmjaa
