/-
  No cell of these rows narrows 'for every input' (looked for: loops, veiled, ifaces, maps, wideKeys, modest, calm, conditions, laid).
  DERIVED. THE GIVEN ROWS OF THIS SEAT. 5 by the template 'for every input the law returns true; each argument reads behind the call as it read before'; 0 by the template 'total and deterministic' (their statements: YtooeikimoheecaaTotals.lean).
  GIVEN WITH THE SEED: the statements are not yours to turn. If you find one false, say at which input.
  Laid BY PROGRAM, IN A SANDBOX (cutbox-rows.mjs): the forced cells as the released guide's own fill.sh prints them over the translation bffd06a910440d84… (all of the seat's roots in one cut). By AI agents, Wed Nov 11 2026. No macro, syntax, notation, axiom, sorry.
-/
import Derived.Test.YtooeikimoheecaaChecked
import GoSem.Claim
import GoSem.ClaimJoined
import GoSem.ClaimMapViews
import Derived.JoinedTies
import Derived.KernelRfl
namespace Go.Proofs.Ytooeikimoheecaa
/- THE CELL 'sum', in the pinned program and in every row, IS THE sha256 OF THE DUMP (.gsa) THAT YtooeikimoheecaaProg.lean LOADS. Nothing in Lean hashes anything: it is a label: what it is worth is what the hold of that sum in a sandbox is worth. -/
noncomputable def Try.pinned : Pinned := { name := "ytooeikimoheecaa", sum := "bffd06a910440d84a94af8a78a3d01994be0663fc1c6e3728bb281633714c901", checked := Try.checked }
namespace Rows
def none {H : Type} : Left H := { results := [], args := [] }

/-- 'laws.FnInOrder': WHATEVER THE INPUT: true; the input reads as it did. -/
def fnInOrderSpec : ChangeSpec := { name := "fnInOrder", fn := fun _ => fun
  | [d] => { results := [.lit (.bool true)], args := [d] }
  | _ => none }
def fnInOrderRow : OpenClaim := { program := "ytooeikimoheecaa", sum := "bffd06a910440d84a94af8a78a3d01994be0663fc1c6e3728bb281633714c901", func := "loop.example/g00831/laws.FnInOrder", spec := "fnInOrder", unfollowed := true, recurses := true, apart := false }
def FnInOrderSaid : Prop := fnInOrderRow.holds Try.pinned (OpenSpec.ofChange fnInOrderSpec)

/-- ITS FALSE NEIGHBOUR: 'it returns false'. Refute it at one input. -/
def fnInOrderWrong : ChangeSpec := { name := "fnInOrder", fn := fun _ => fun
  | [d] => { results := [.lit (.bool false)], args := [d] }
  | _ => none }
def FnInOrderWrongFalsely : Prop := fnInOrderRow.holds Try.pinned (OpenSpec.ofChange fnInOrderWrong)

/-- 'laws.FnExactPassageOk': WHATEVER THE INPUT: true; the input reads as it did. -/
def fnExactPassageOkSpec : ChangeSpec := { name := "fnExactPassageOk", fn := fun _ => fun
  | [d1, d2, d3] => { results := [.lit (.bool true)], args := [d1, d2, d3] }
  | _ => none }
def fnExactPassageOkRow : OpenClaim := { program := "ytooeikimoheecaa", sum := "bffd06a910440d84a94af8a78a3d01994be0663fc1c6e3728bb281633714c901", func := "loop.example/g00831/laws.FnExactPassageOk", spec := "fnExactPassageOk", unfollowed := true, recurses := true, apart := false }
def FnExactPassageOkSaid : Prop := fnExactPassageOkRow.holds Try.pinned (OpenSpec.ofChange fnExactPassageOkSpec)

/-- ITS FALSE NEIGHBOUR: 'it returns false'. Refute it at one input. -/
def fnExactPassageOkWrong : ChangeSpec := { name := "fnExactPassageOk", fn := fun _ => fun
  | [d1, d2, d3] => { results := [.lit (.bool false)], args := [d1, d2, d3] }
  | _ => none }
def FnExactPassageOkWrongFalsely : Prop := fnExactPassageOkRow.holds Try.pinned (OpenSpec.ofChange fnExactPassageOkWrong)

/-- 'laws.FnExactArrivalOf': WHATEVER THE INPUT: true; the input reads as it did. -/
def fnExactArrivalOfSpec : ChangeSpec := { name := "fnExactArrivalOf", fn := fun _ => fun
  | [d1, d2, d3, d4] => { results := [.lit (.bool true)], args := [d1, d2, d3, d4] }
  | _ => none }
def fnExactArrivalOfRow : OpenClaim := { program := "ytooeikimoheecaa", sum := "bffd06a910440d84a94af8a78a3d01994be0663fc1c6e3728bb281633714c901", func := "loop.example/g00831/laws.FnExactArrivalOf", spec := "fnExactArrivalOf", unfollowed := true, recurses := true, apart := false }
def FnExactArrivalOfSaid : Prop := fnExactArrivalOfRow.holds Try.pinned (OpenSpec.ofChange fnExactArrivalOfSpec)

/-- ITS FALSE NEIGHBOUR: 'it returns false'. Refute it at one input. -/
def fnExactArrivalOfWrong : ChangeSpec := { name := "fnExactArrivalOf", fn := fun _ => fun
  | [d1, d2, d3, d4] => { results := [.lit (.bool false)], args := [d1, d2, d3, d4] }
  | _ => none }
def FnExactArrivalOfWrongFalsely : Prop := fnExactArrivalOfRow.holds Try.pinned (OpenSpec.ofChange fnExactArrivalOfWrong)

/-- 'laws.FnExactPassagesOf': WHATEVER THE INPUT: true; the input reads as it did. -/
def fnExactPassagesOfSpec : ChangeSpec := { name := "fnExactPassagesOf", fn := fun _ => fun
  | [d1, d2, d3, d4, d5, d6] => { results := [.lit (.bool true)], args := [d1, d2, d3, d4, d5, d6] }
  | _ => none }
def fnExactPassagesOfRow : OpenClaim := { program := "ytooeikimoheecaa", sum := "bffd06a910440d84a94af8a78a3d01994be0663fc1c6e3728bb281633714c901", func := "loop.example/g00831/laws.FnExactPassagesOf", spec := "fnExactPassagesOf", unfollowed := true, recurses := true, apart := false }
def FnExactPassagesOfSaid : Prop := fnExactPassagesOfRow.holds Try.pinned (OpenSpec.ofChange fnExactPassagesOfSpec)

/-- ITS FALSE NEIGHBOUR: 'it returns false'. Refute it at one input. -/
def fnExactPassagesOfWrong : ChangeSpec := { name := "fnExactPassagesOf", fn := fun _ => fun
  | [d1, d2, d3, d4, d5, d6] => { results := [.lit (.bool false)], args := [d1, d2, d3, d4, d5, d6] }
  | _ => none }
def FnExactPassagesOfWrongFalsely : Prop := fnExactPassagesOfRow.holds Try.pinned (OpenSpec.ofChange fnExactPassagesOfWrong)

/-- 'laws.FnExactIsChain': WHATEVER THE INPUT: true; the input reads as it did. -/
def fnExactIsChainSpec : ChangeSpec := { name := "fnExactIsChain", fn := fun _ => fun
  | [d1, d2] => { results := [.lit (.bool true)], args := [d1, d2] }
  | _ => none }
def fnExactIsChainRow : OpenClaim := { program := "ytooeikimoheecaa", sum := "bffd06a910440d84a94af8a78a3d01994be0663fc1c6e3728bb281633714c901", func := "loop.example/g00831/laws.FnExactIsChain", spec := "fnExactIsChain", unfollowed := true, recurses := true, apart := false }
def FnExactIsChainSaid : Prop := fnExactIsChainRow.holds Try.pinned (OpenSpec.ofChange fnExactIsChainSpec)

/-- ITS FALSE NEIGHBOUR: 'it returns false'. Refute it at one input. -/
def fnExactIsChainWrong : ChangeSpec := { name := "fnExactIsChain", fn := fun _ => fun
  | [d1, d2] => { results := [.lit (.bool false)], args := [d1, d2] }
  | _ => none }
def FnExactIsChainWrongFalsely : Prop := fnExactIsChainRow.holds Try.pinned (OpenSpec.ofChange fnExactIsChainWrong)

/- THE SECOND FORM. 'bulk': how many values and letters a reading holds, each counted each time it is reached (what is shared counts as often as it is met; a slice's spare places count too). A statement '..UptoSaid' is the law's where the arguments, and the package variables that the reading takes, are together of bulk at most 1048576: NARROWER than '..Said'. Prove '..Said' where nothing that the law and all that it calls make is longer than what came in: it says more and counts as full. Else prove '..UptoSaid'. A law counts once. -/
mutual
def uptoBulk {H : Type} : DataW H → Nat
  | .lit (.string bytes) => bytes.length + 1
  | .lit _ => 1
  | .nil => 1
  | .ptr d => uptoBulk d + 1
  | .slice elems spare => uptoBulkAll elems + uptoBulkAll spare + 1
  | .agg parts => uptoBulkAll parts + 1
  | .iface _ d => uptoBulk d + 1
  | .map entries => uptoBulkEntries entries + 1
  | .held _ => 1
def uptoBulkAll {H : Type} : List (DataW H) → Nat
  | [] => 0
  | d :: r => uptoBulk d + uptoBulkAll r
def uptoBulkEntries {H : Type} : List (Lit × DataW H) → Nat
  | [] => 0
  | x :: r => uptoBulkEntry x + uptoBulkEntries r
def uptoBulkEntry {H : Type} : Lit × DataW H → Nat
  | (.string bytes, d) => bytes.length + uptoBulk d + 1
  | (_, d) => uptoBulk d + 1
 end
def uptoSmall : (H : Type) → List (DataW H) → Bool := fun _ ds => decide (uptoBulkAll ds ≤ 1048576)
def OpenSpec.upto (s : _root_.Go.ChangeSpec) : _root_.Go.OpenSpec := { _root_.Go.OpenSpec.ofChange s with cond := some uptoSmall }

/-- 'laws.FnInOrder', WHERE WHAT IT READS IS OF BULK AT MOST 1048576: true; the input reads as it did. -/
def fnInOrderUptoRow : OpenClaim := { program := "ytooeikimoheecaa", sum := "bffd06a910440d84a94af8a78a3d01994be0663fc1c6e3728bb281633714c901", func := "loop.example/g00831/laws.FnInOrder", spec := "fnInOrder", unfollowed := true, recurses := true, apart := false, narrowed := true }
def FnInOrderUptoSaid : Prop := fnInOrderUptoRow.holds Try.pinned (OpenSpec.upto fnInOrderSpec)

/-- 'laws.FnExactPassageOk', WHERE WHAT IT READS IS OF BULK AT MOST 1048576: true; the input reads as it did. -/
def fnExactPassageOkUptoRow : OpenClaim := { program := "ytooeikimoheecaa", sum := "bffd06a910440d84a94af8a78a3d01994be0663fc1c6e3728bb281633714c901", func := "loop.example/g00831/laws.FnExactPassageOk", spec := "fnExactPassageOk", unfollowed := true, recurses := true, apart := false, narrowed := true }
def FnExactPassageOkUptoSaid : Prop := fnExactPassageOkUptoRow.holds Try.pinned (OpenSpec.upto fnExactPassageOkSpec)

/-- 'laws.FnExactArrivalOf', WHERE WHAT IT READS IS OF BULK AT MOST 1048576: true; the input reads as it did. -/
def fnExactArrivalOfUptoRow : OpenClaim := { program := "ytooeikimoheecaa", sum := "bffd06a910440d84a94af8a78a3d01994be0663fc1c6e3728bb281633714c901", func := "loop.example/g00831/laws.FnExactArrivalOf", spec := "fnExactArrivalOf", unfollowed := true, recurses := true, apart := false, narrowed := true }
def FnExactArrivalOfUptoSaid : Prop := fnExactArrivalOfUptoRow.holds Try.pinned (OpenSpec.upto fnExactArrivalOfSpec)

/-- 'laws.FnExactPassagesOf', WHERE WHAT IT READS IS OF BULK AT MOST 1048576: true; the input reads as it did. -/
def fnExactPassagesOfUptoRow : OpenClaim := { program := "ytooeikimoheecaa", sum := "bffd06a910440d84a94af8a78a3d01994be0663fc1c6e3728bb281633714c901", func := "loop.example/g00831/laws.FnExactPassagesOf", spec := "fnExactPassagesOf", unfollowed := true, recurses := true, apart := false, narrowed := true }
def FnExactPassagesOfUptoSaid : Prop := fnExactPassagesOfUptoRow.holds Try.pinned (OpenSpec.upto fnExactPassagesOfSpec)

/-- 'laws.FnExactIsChain', WHERE WHAT IT READS IS OF BULK AT MOST 1048576: true; the input reads as it did. -/
def fnExactIsChainUptoRow : OpenClaim := { program := "ytooeikimoheecaa", sum := "bffd06a910440d84a94af8a78a3d01994be0663fc1c6e3728bb281633714c901", func := "loop.example/g00831/laws.FnExactIsChain", spec := "fnExactIsChain", unfollowed := true, recurses := true, apart := false, narrowed := true }
def FnExactIsChainUptoSaid : Prop := fnExactIsChainUptoRow.holds Try.pinned (OpenSpec.upto fnExactIsChainSpec)

end Rows
end Go.Proofs.Ytooeikimoheecaa
