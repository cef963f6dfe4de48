/-
  No cell of these rows narrows 'for every input' (looked for: loops, veiled, ifaces, maps, wideKeys, modest, calm, conditions, laid).
  DERIVED. THE GIVEN ROWS OF THIS SEAT. 3 by the template 'for every input the law returns true; each argument reads behind the call as it read before'; 0 by the template 'total and deterministic' (their statements: YtooeikimoheecaaGreatTotals.lean).
  GIVEN WITH THE SEED: the statements are not yours to turn. If you find one false, say at which input.
  Laid BY PROGRAM, IN A SANDBOX (cutbox-rows.mjs): the forced cells as the released guide's own fill.sh prints them over the translation 7d3b76d08dd629a7… (all of the seat's roots in one cut). By AI agents, Wed Nov 11 2026. No macro, syntax, notation, axiom, sorry.
-/
import Derived.Test.YtooeikimoheecaaGreatChecked
import GoSem.Claim
import GoSem.ClaimJoined
import GoSem.ClaimMapViews
import Derived.JoinedTies
import Derived.KernelRfl
namespace Go.Proofs.YtooeikimoheecaaGreat
/- THE CELL 'sum', in the pinned program and in every row, IS THE sha256 OF THE DUMP (.gsa) THAT YtooeikimoheecaaGreatProg.lean LOADS. Nothing in Lean hashes anything: it is a label: what it is worth is what the hold of that sum in a sandbox is worth. -/
noncomputable def Tryz.pinned : Pinned := { name := "ytooeikimoheecaagreat", sum := "7d3b76d08dd629a797364045df4f66ded2a81cde7ac06c1e579e15e86788a562", checked := Tryz.checked }
namespace Rows
def none {H : Type} : Left H := { results := [], args := [] }

/-- 'laws.FnExactIsSafePassage': WHATEVER THE INPUT: true; the input reads as it did. -/
def fnExactIsSafePassageSpec : ChangeSpec := { name := "fnExactIsSafePassage", fn := fun _ => fun
  | [d1, d2, d3, d4] => { results := [.lit (.bool true)], args := [d1, d2, d3, d4] }
  | _ => none }
def fnExactIsSafePassageRow : OpenClaim := { program := "ytooeikimoheecaagreat", sum := "7d3b76d08dd629a797364045df4f66ded2a81cde7ac06c1e579e15e86788a562", func := "loop.example/g00831/laws.FnExactIsSafePassage", spec := "fnExactIsSafePassage", unfollowed := true, recurses := true, apart := false }
def FnExactIsSafePassageSaid : Prop := fnExactIsSafePassageRow.holds Tryz.pinned (OpenSpec.ofChange fnExactIsSafePassageSpec)

/-- ITS FALSE NEIGHBOUR: 'it returns false'. Refute it at one input. -/
def fnExactIsSafePassageWrong : ChangeSpec := { name := "fnExactIsSafePassage", fn := fun _ => fun
  | [d1, d2, d3, d4] => { results := [.lit (.bool false)], args := [d1, d2, d3, d4] }
  | _ => none }
def FnExactIsSafePassageWrongFalsely : Prop := fnExactIsSafePassageRow.holds Tryz.pinned (OpenSpec.ofChange fnExactIsSafePassageWrong)

/-- 'laws.FnExactSailRoute': WHATEVER THE INPUT: true; the input reads as it did. -/
def fnExactSailRouteSpec : ChangeSpec := { name := "fnExactSailRoute", fn := fun _ => fun
  | [d1, d2, d3, d4, d5, d6] => { results := [.lit (.bool true)], args := [d1, d2, d3, d4, d5, d6] }
  | _ => none }
def fnExactSailRouteRow : OpenClaim := { program := "ytooeikimoheecaagreat", sum := "7d3b76d08dd629a797364045df4f66ded2a81cde7ac06c1e579e15e86788a562", func := "loop.example/g00831/laws.FnExactSailRoute", spec := "fnExactSailRoute", unfollowed := true, recurses := true, apart := false }
def FnExactSailRouteSaid : Prop := fnExactSailRouteRow.holds Tryz.pinned (OpenSpec.ofChange fnExactSailRouteSpec)

/-- ITS FALSE NEIGHBOUR: 'it returns false'. Refute it at one input. -/
def fnExactSailRouteWrong : ChangeSpec := { name := "fnExactSailRoute", fn := fun _ => fun
  | [d1, d2, d3, d4, d5, d6] => { results := [.lit (.bool false)], args := [d1, d2, d3, d4, d5, d6] }
  | _ => none }
def FnExactSailRouteWrongFalsely : Prop := fnExactSailRouteRow.holds Tryz.pinned (OpenSpec.ofChange fnExactSailRouteWrong)

/-- 'laws.FnExactFirstSail': WHATEVER THE INPUT: true; the input reads as it did. -/
def fnExactFirstSailSpec : ChangeSpec := { name := "fnExactFirstSail", fn := fun _ => fun
  | [d1, d2, d3, d4, d5, d6] => { results := [.lit (.bool true)], args := [d1, d2, d3, d4, d5, d6] }
  | _ => none }
def fnExactFirstSailRow : OpenClaim := { program := "ytooeikimoheecaagreat", sum := "7d3b76d08dd629a797364045df4f66ded2a81cde7ac06c1e579e15e86788a562", func := "loop.example/g00831/laws.FnExactFirstSail", spec := "fnExactFirstSail", unfollowed := true, recurses := true, apart := false }
def FnExactFirstSailSaid : Prop := fnExactFirstSailRow.holds Tryz.pinned (OpenSpec.ofChange fnExactFirstSailSpec)

/-- ITS FALSE NEIGHBOUR: 'it returns false'. Refute it at one input. -/
def fnExactFirstSailWrong : ChangeSpec := { name := "fnExactFirstSail", fn := fun _ => fun
  | [d1, d2, d3, d4, d5, d6] => { results := [.lit (.bool false)], args := [d1, d2, d3, d4, d5, d6] }
  | _ => none }
def FnExactFirstSailWrongFalsely : Prop := fnExactFirstSailRow.holds Tryz.pinned (OpenSpec.ofChange fnExactFirstSailWrong)

/- THE SECOND FORM. 'bulk': how many values and letters a reading holds, each counted each time it is reached (what is shared counts as often as it is met; a slice's spare places count too). A statement '..UptoSaid' is the law's where the arguments, and the package variables that the reading takes, are together of bulk at most 1048576: NARROWER than '..Said'. Prove '..Said' where nothing that the law and all that it calls make is longer than what came in: it says more and counts as full. Else prove '..UptoSaid'. A law counts once. -/
mutual
def uptoBulk {H : Type} : DataW H → Nat
  | .lit (.string bytes) => bytes.length + 1
  | .lit _ => 1
  | .nil => 1
  | .ptr d => uptoBulk d + 1
  | .slice elems spare => uptoBulkAll elems + uptoBulkAll spare + 1
  | .agg parts => uptoBulkAll parts + 1
  | .iface _ d => uptoBulk d + 1
  | .map entries => uptoBulkEntries entries + 1
  | .held _ => 1
def uptoBulkAll {H : Type} : List (DataW H) → Nat
  | [] => 0
  | d :: r => uptoBulk d + uptoBulkAll r
def uptoBulkEntries {H : Type} : List (Lit × DataW H) → Nat
  | [] => 0
  | x :: r => uptoBulkEntry x + uptoBulkEntries r
def uptoBulkEntry {H : Type} : Lit × DataW H → Nat
  | (.string bytes, d) => bytes.length + uptoBulk d + 1
  | (_, d) => uptoBulk d + 1
 end
def uptoSmall : (H : Type) → List (DataW H) → Bool := fun _ ds => decide (uptoBulkAll ds ≤ 1048576)
def OpenSpec.upto (s : _root_.Go.ChangeSpec) : _root_.Go.OpenSpec := { _root_.Go.OpenSpec.ofChange s with cond := some uptoSmall }

/-- 'laws.FnExactIsSafePassage', WHERE WHAT IT READS IS OF BULK AT MOST 1048576: true; the input reads as it did. -/
def fnExactIsSafePassageUptoRow : OpenClaim := { program := "ytooeikimoheecaagreat", sum := "7d3b76d08dd629a797364045df4f66ded2a81cde7ac06c1e579e15e86788a562", func := "loop.example/g00831/laws.FnExactIsSafePassage", spec := "fnExactIsSafePassage", unfollowed := true, recurses := true, apart := false, narrowed := true }
def FnExactIsSafePassageUptoSaid : Prop := fnExactIsSafePassageUptoRow.holds Tryz.pinned (OpenSpec.upto fnExactIsSafePassageSpec)

/-- 'laws.FnExactSailRoute', WHERE WHAT IT READS IS OF BULK AT MOST 1048576: true; the input reads as it did. -/
def fnExactSailRouteUptoRow : OpenClaim := { program := "ytooeikimoheecaagreat", sum := "7d3b76d08dd629a797364045df4f66ded2a81cde7ac06c1e579e15e86788a562", func := "loop.example/g00831/laws.FnExactSailRoute", spec := "fnExactSailRoute", unfollowed := true, recurses := true, apart := false, narrowed := true }
def FnExactSailRouteUptoSaid : Prop := fnExactSailRouteUptoRow.holds Tryz.pinned (OpenSpec.upto fnExactSailRouteSpec)

/-- 'laws.FnExactFirstSail', WHERE WHAT IT READS IS OF BULK AT MOST 1048576: true; the input reads as it did. -/
def fnExactFirstSailUptoRow : OpenClaim := { program := "ytooeikimoheecaagreat", sum := "7d3b76d08dd629a797364045df4f66ded2a81cde7ac06c1e579e15e86788a562", func := "loop.example/g00831/laws.FnExactFirstSail", spec := "fnExactFirstSail", unfollowed := true, recurses := true, apart := false, narrowed := true }
def FnExactFirstSailUptoSaid : Prop := fnExactFirstSailUptoRow.holds Tryz.pinned (OpenSpec.upto fnExactFirstSailSpec)

end Rows
end Go.Proofs.YtooeikimoheecaaGreat
