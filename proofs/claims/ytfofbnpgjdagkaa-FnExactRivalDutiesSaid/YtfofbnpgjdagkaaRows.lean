/-
  No cell of these rows narrows 'for every input' (looked for: loops, veiled, ifaces, maps, wideKeys, modest, calm, conditions, laid).
  DERIVED. THE GIVEN ROWS OF THIS SEAT. 9 by the template 'for every input the law returns true; each argument reads behind the call as it read before'; 0 by the template 'total and deterministic' (their statements: YtfofbnpgjdagkaaTotals.lean).
  GIVEN WITH THE SEED: the statements are not yours to turn. If you find one false, say at which input.
  Laid BY PROGRAM, IN A SANDBOX (cutbox-rows.mjs): the forced cells as the released guide's own fill.sh prints them over the translation 136dda7a55cfee86… (all of the seat's roots in one cut). By AI agents, Wed Nov 11 2026. No macro, syntax, notation, axiom, sorry.
-/
import Derived.Test.YtfofbnpgjdagkaaChecked
import GoSem.Claim
import GoSem.ClaimJoined
import GoSem.ClaimMapViews
import Derived.JoinedTies
import Derived.KernelRfl
namespace Go.Proofs.Ytfofbnpgjdagkaa
/- THE CELL 'sum', in the pinned program and in every row, IS THE sha256 OF THE DUMP (.gsa) THAT YtfofbnpgjdagkaaProg.lean LOADS. Nothing in Lean hashes anything: it is a label: what it is worth is what the hold of that sum in a sandbox is worth. -/
noncomputable def Try.pinned : Pinned := { name := "ytfofbnpgjdagkaa", sum := "136dda7a55cfee8652065902246da65ba794372aafa2fa0fff7986e7b38bb5fc", checked := Try.checked }
namespace Rows
def none {H : Type} : Left H := { results := [], args := [] }

/-- 'laws.FnCovers': WHATEVER THE INPUT: true; the input reads as it did. -/
def fnCoversSpec : ChangeSpec := { name := "fnCovers", fn := fun _ => fun
  | [d] => { results := [.lit (.bool true)], args := [d] }
  | _ => none }
def fnCoversRow : OpenClaim := { program := "ytfofbnpgjdagkaa", sum := "136dda7a55cfee8652065902246da65ba794372aafa2fa0fff7986e7b38bb5fc", func := "loop.example/g00831/laws.FnCovers", spec := "fnCovers", unfollowed := true, recurses := true, plainKeys := false, apart := false }
def FnCoversSaid : Prop := fnCoversRow.holds Try.pinned (OpenSpec.ofChange fnCoversSpec)

/-- ITS FALSE NEIGHBOUR: 'it returns false'. Refute it at one input. -/
def fnCoversWrong : ChangeSpec := { name := "fnCovers", fn := fun _ => fun
  | [d] => { results := [.lit (.bool false)], args := [d] }
  | _ => none }
def FnCoversWrongFalsely : Prop := fnCoversRow.holds Try.pinned (OpenSpec.ofChange fnCoversWrong)

/-- 'laws.FnDilworth': WHATEVER THE INPUT: true; the input reads as it did. -/
def fnDilworthSpec : ChangeSpec := { name := "fnDilworth", fn := fun _ => fun
  | [d] => { results := [.lit (.bool true)], args := [d] }
  | _ => none }
def fnDilworthRow : OpenClaim := { program := "ytfofbnpgjdagkaa", sum := "136dda7a55cfee8652065902246da65ba794372aafa2fa0fff7986e7b38bb5fc", func := "loop.example/g00831/laws.FnDilworth", spec := "fnDilworth", unfollowed := true, recurses := true, plainKeys := false, apart := false }
def FnDilworthSaid : Prop := fnDilworthRow.holds Try.pinned (OpenSpec.ofChange fnDilworthSpec)

/-- ITS FALSE NEIGHBOUR: 'it returns false'. Refute it at one input. -/
def fnDilworthWrong : ChangeSpec := { name := "fnDilworth", fn := fun _ => fun
  | [d] => { results := [.lit (.bool false)], args := [d] }
  | _ => none }
def FnDilworthWrongFalsely : Prop := fnDilworthRow.holds Try.pinned (OpenSpec.ofChange fnDilworthWrong)

/-- 'laws.FnExactDutiesOk': WHATEVER THE INPUT: true; the input reads as it did. -/
def fnExactDutiesOkSpec : ChangeSpec := { name := "fnExactDutiesOk", fn := fun _ => fun
  | [d] => { results := [.lit (.bool true)], args := [d] }
  | _ => none }
def fnExactDutiesOkRow : OpenClaim := { program := "ytfofbnpgjdagkaa", sum := "136dda7a55cfee8652065902246da65ba794372aafa2fa0fff7986e7b38bb5fc", func := "loop.example/g00831/laws.FnExactDutiesOk", spec := "fnExactDutiesOk", unfollowed := true, recurses := true, plainKeys := false, apart := false }
def FnExactDutiesOkSaid : Prop := fnExactDutiesOkRow.holds Try.pinned (OpenSpec.ofChange fnExactDutiesOkSpec)

/-- ITS FALSE NEIGHBOUR: 'it returns false'. Refute it at one input. -/
def fnExactDutiesOkWrong : ChangeSpec := { name := "fnExactDutiesOk", fn := fun _ => fun
  | [d] => { results := [.lit (.bool false)], args := [d] }
  | _ => none }
def FnExactDutiesOkWrongFalsely : Prop := fnExactDutiesOkRow.holds Try.pinned (OpenSpec.ofChange fnExactDutiesOkWrong)

/-- 'laws.FnExactGap': WHATEVER THE INPUT: true; the input reads as it did. -/
def fnExactGapSpec : ChangeSpec := { name := "fnExactGap", fn := fun _ => fun
  | [d1, d2, d3, d4] => { results := [.lit (.bool true)], args := [d1, d2, d3, d4] }
  | _ => none }
def fnExactGapRow : OpenClaim := { program := "ytfofbnpgjdagkaa", sum := "136dda7a55cfee8652065902246da65ba794372aafa2fa0fff7986e7b38bb5fc", func := "loop.example/g00831/laws.FnExactGap", spec := "fnExactGap", unfollowed := true, recurses := true, plainKeys := false, apart := false }
def FnExactGapSaid : Prop := fnExactGapRow.holds Try.pinned (OpenSpec.ofChange fnExactGapSpec)

/-- ITS FALSE NEIGHBOUR: 'it returns false'. Refute it at one input. -/
def fnExactGapWrong : ChangeSpec := { name := "fnExactGap", fn := fun _ => fun
  | [d1, d2, d3, d4] => { results := [.lit (.bool false)], args := [d1, d2, d3, d4] }
  | _ => none }
def FnExactGapWrongFalsely : Prop := fnExactGapRow.holds Try.pinned (OpenSpec.ofChange fnExactGapWrong)

/-- 'laws.FnExactCanFollow': WHATEVER THE INPUT: true; the input reads as it did. -/
def fnExactCanFollowSpec : ChangeSpec := { name := "fnExactCanFollow", fn := fun _ => fun
  | [d1, d2, d3, d4] => { results := [.lit (.bool true)], args := [d1, d2, d3, d4] }
  | _ => none }
def fnExactCanFollowRow : OpenClaim := { program := "ytfofbnpgjdagkaa", sum := "136dda7a55cfee8652065902246da65ba794372aafa2fa0fff7986e7b38bb5fc", func := "loop.example/g00831/laws.FnExactCanFollow", spec := "fnExactCanFollow", unfollowed := true, recurses := true, plainKeys := false, apart := false }
def FnExactCanFollowSaid : Prop := fnExactCanFollowRow.holds Try.pinned (OpenSpec.ofChange fnExactCanFollowSpec)

/-- ITS FALSE NEIGHBOUR: 'it returns false'. Refute it at one input. -/
def fnExactCanFollowWrong : ChangeSpec := { name := "fnExactCanFollow", fn := fun _ => fun
  | [d1, d2, d3, d4] => { results := [.lit (.bool false)], args := [d1, d2, d3, d4] }
  | _ => none }
def FnExactCanFollowWrongFalsely : Prop := fnExactCanFollowRow.holds Try.pinned (OpenSpec.ofChange fnExactCanFollowWrong)

/-- 'laws.FnExactIsCover': WHATEVER THE INPUT: true; the input reads as it did. -/
def fnExactIsCoverSpec : ChangeSpec := { name := "fnExactIsCover", fn := fun _ => fun
  | [d1, d2, d3, d4] => { results := [.lit (.bool true)], args := [d1, d2, d3, d4] }
  | _ => none }
def fnExactIsCoverRow : OpenClaim := { program := "ytfofbnpgjdagkaa", sum := "136dda7a55cfee8652065902246da65ba794372aafa2fa0fff7986e7b38bb5fc", func := "loop.example/g00831/laws.FnExactIsCover", spec := "fnExactIsCover", unfollowed := true, recurses := true, plainKeys := false, apart := false }
def FnExactIsCoverSaid : Prop := fnExactIsCoverRow.holds Try.pinned (OpenSpec.ofChange fnExactIsCoverSpec)

/-- ITS FALSE NEIGHBOUR: 'it returns false'. Refute it at one input. -/
def fnExactIsCoverWrong : ChangeSpec := { name := "fnExactIsCover", fn := fun _ => fun
  | [d1, d2, d3, d4] => { results := [.lit (.bool false)], args := [d1, d2, d3, d4] }
  | _ => none }
def FnExactIsCoverWrongFalsely : Prop := fnExactIsCoverRow.holds Try.pinned (OpenSpec.ofChange fnExactIsCoverWrong)

/-- 'laws.FnExactLeastCover': WHATEVER THE INPUT: true; the input reads as it did. -/
def fnExactLeastCoverSpec : ChangeSpec := { name := "fnExactLeastCover", fn := fun _ => fun
  | [d1, d2, d3] => { results := [.lit (.bool true)], args := [d1, d2, d3] }
  | _ => none }
def fnExactLeastCoverRow : OpenClaim := { program := "ytfofbnpgjdagkaa", sum := "136dda7a55cfee8652065902246da65ba794372aafa2fa0fff7986e7b38bb5fc", func := "loop.example/g00831/laws.FnExactLeastCover", spec := "fnExactLeastCover", unfollowed := true, recurses := true, plainKeys := false, apart := false }
def FnExactLeastCoverSaid : Prop := fnExactLeastCoverRow.holds Try.pinned (OpenSpec.ofChange fnExactLeastCoverSpec)

/-- ITS FALSE NEIGHBOUR: 'it returns false'. Refute it at one input. -/
def fnExactLeastCoverWrong : ChangeSpec := { name := "fnExactLeastCover", fn := fun _ => fun
  | [d1, d2, d3] => { results := [.lit (.bool false)], args := [d1, d2, d3] }
  | _ => none }
def FnExactLeastCoverWrongFalsely : Prop := fnExactLeastCoverRow.holds Try.pinned (OpenSpec.ofChange fnExactLeastCoverWrong)

/-- 'laws.FnExactRivalDuties': WHATEVER THE INPUT: true; the input reads as it did. -/
def fnExactRivalDutiesSpec : ChangeSpec := { name := "fnExactRivalDuties", fn := fun _ => fun
  | [d1, d2, d3] => { results := [.lit (.bool true)], args := [d1, d2, d3] }
  | _ => none }
def fnExactRivalDutiesRow : OpenClaim := { program := "ytfofbnpgjdagkaa", sum := "136dda7a55cfee8652065902246da65ba794372aafa2fa0fff7986e7b38bb5fc", func := "loop.example/g00831/laws.FnExactRivalDuties", spec := "fnExactRivalDuties", unfollowed := true, recurses := true, plainKeys := false, apart := false }
def FnExactRivalDutiesSaid : Prop := fnExactRivalDutiesRow.holds Try.pinned (OpenSpec.ofChange fnExactRivalDutiesSpec)

/-- ITS FALSE NEIGHBOUR: 'it returns false'. Refute it at one input. -/
def fnExactRivalDutiesWrong : ChangeSpec := { name := "fnExactRivalDuties", fn := fun _ => fun
  | [d1, d2, d3] => { results := [.lit (.bool false)], args := [d1, d2, d3] }
  | _ => none }
def FnExactRivalDutiesWrongFalsely : Prop := fnExactRivalDutiesRow.holds Try.pinned (OpenSpec.ofChange fnExactRivalDutiesWrong)

/-- 'laws.FnExactStayingMoves': WHATEVER THE INPUT: true; the input reads as it did. -/
def fnExactStayingMovesSpec : ChangeSpec := { name := "fnExactStayingMoves", fn := fun _ => fun
  | [] => { results := [.lit (.bool true)], args := [] }
  | _ => none }
def fnExactStayingMovesRow : OpenClaim := { program := "ytfofbnpgjdagkaa", sum := "136dda7a55cfee8652065902246da65ba794372aafa2fa0fff7986e7b38bb5fc", func := "loop.example/g00831/laws.FnExactStayingMoves", spec := "fnExactStayingMoves", plainKeys := false, apart := false }
def FnExactStayingMovesSaid : Prop := fnExactStayingMovesRow.holds Try.pinned (OpenSpec.ofChange fnExactStayingMovesSpec)

/-- ITS FALSE NEIGHBOUR: 'it returns false'. Refute it at one input. -/
def fnExactStayingMovesWrong : ChangeSpec := { name := "fnExactStayingMoves", fn := fun _ => fun
  | [] => { results := [.lit (.bool false)], args := [] }
  | _ => none }
def FnExactStayingMovesWrongFalsely : Prop := fnExactStayingMovesRow.holds Try.pinned (OpenSpec.ofChange fnExactStayingMovesWrong)

/- THE SECOND FORM. 'bulk': how many values and letters a reading holds, each counted each time it is reached (what is shared counts as often as it is met; a slice's spare places count too). A statement '..UptoSaid' is the law's where the arguments, and the package variables that the reading takes, are together of bulk at most 1048576: NARROWER than '..Said'. Prove '..Said' where nothing that the law and all that it calls make is longer than what came in: it says more and counts as full. Else prove '..UptoSaid'. A law counts once. -/
mutual
def uptoBulk {H : Type} : DataW H → Nat
  | .lit (.string bytes) => bytes.length + 1
  | .lit _ => 1
  | .nil => 1
  | .ptr d => uptoBulk d + 1
  | .slice elems spare => uptoBulkAll elems + uptoBulkAll spare + 1
  | .agg parts => uptoBulkAll parts + 1
  | .iface _ d => uptoBulk d + 1
  | .map entries => uptoBulkEntries entries + 1
  | .held _ => 1
def uptoBulkAll {H : Type} : List (DataW H) → Nat
  | [] => 0
  | d :: r => uptoBulk d + uptoBulkAll r
def uptoBulkEntries {H : Type} : List (Lit × DataW H) → Nat
  | [] => 0
  | x :: r => uptoBulkEntry x + uptoBulkEntries r
def uptoBulkEntry {H : Type} : Lit × DataW H → Nat
  | (.string bytes, d) => bytes.length + uptoBulk d + 1
  | (_, d) => uptoBulk d + 1
 end
def uptoSmall : (H : Type) → List (DataW H) → Bool := fun _ ds => decide (uptoBulkAll ds ≤ 1048576)
def OpenSpec.upto (s : _root_.Go.ChangeSpec) : _root_.Go.OpenSpec := { _root_.Go.OpenSpec.ofChange s with cond := some uptoSmall }

/-- 'laws.FnCovers', WHERE WHAT IT READS IS OF BULK AT MOST 1048576: true; the input reads as it did. -/
def fnCoversUptoRow : OpenClaim := { program := "ytfofbnpgjdagkaa", sum := "136dda7a55cfee8652065902246da65ba794372aafa2fa0fff7986e7b38bb5fc", func := "loop.example/g00831/laws.FnCovers", spec := "fnCovers", unfollowed := true, recurses := true, plainKeys := false, apart := false, narrowed := true }
def FnCoversUptoSaid : Prop := fnCoversUptoRow.holds Try.pinned (OpenSpec.upto fnCoversSpec)

/-- 'laws.FnDilworth', WHERE WHAT IT READS IS OF BULK AT MOST 1048576: true; the input reads as it did. -/
def fnDilworthUptoRow : OpenClaim := { program := "ytfofbnpgjdagkaa", sum := "136dda7a55cfee8652065902246da65ba794372aafa2fa0fff7986e7b38bb5fc", func := "loop.example/g00831/laws.FnDilworth", spec := "fnDilworth", unfollowed := true, recurses := true, plainKeys := false, apart := false, narrowed := true }
def FnDilworthUptoSaid : Prop := fnDilworthUptoRow.holds Try.pinned (OpenSpec.upto fnDilworthSpec)

/-- 'laws.FnExactDutiesOk', WHERE WHAT IT READS IS OF BULK AT MOST 1048576: true; the input reads as it did. -/
def fnExactDutiesOkUptoRow : OpenClaim := { program := "ytfofbnpgjdagkaa", sum := "136dda7a55cfee8652065902246da65ba794372aafa2fa0fff7986e7b38bb5fc", func := "loop.example/g00831/laws.FnExactDutiesOk", spec := "fnExactDutiesOk", unfollowed := true, recurses := true, plainKeys := false, apart := false, narrowed := true }
def FnExactDutiesOkUptoSaid : Prop := fnExactDutiesOkUptoRow.holds Try.pinned (OpenSpec.upto fnExactDutiesOkSpec)

/-- 'laws.FnExactGap', WHERE WHAT IT READS IS OF BULK AT MOST 1048576: true; the input reads as it did. -/
def fnExactGapUptoRow : OpenClaim := { program := "ytfofbnpgjdagkaa", sum := "136dda7a55cfee8652065902246da65ba794372aafa2fa0fff7986e7b38bb5fc", func := "loop.example/g00831/laws.FnExactGap", spec := "fnExactGap", unfollowed := true, recurses := true, plainKeys := false, apart := false, narrowed := true }
def FnExactGapUptoSaid : Prop := fnExactGapUptoRow.holds Try.pinned (OpenSpec.upto fnExactGapSpec)

/-- 'laws.FnExactCanFollow', WHERE WHAT IT READS IS OF BULK AT MOST 1048576: true; the input reads as it did. -/
def fnExactCanFollowUptoRow : OpenClaim := { program := "ytfofbnpgjdagkaa", sum := "136dda7a55cfee8652065902246da65ba794372aafa2fa0fff7986e7b38bb5fc", func := "loop.example/g00831/laws.FnExactCanFollow", spec := "fnExactCanFollow", unfollowed := true, recurses := true, plainKeys := false, apart := false, narrowed := true }
def FnExactCanFollowUptoSaid : Prop := fnExactCanFollowUptoRow.holds Try.pinned (OpenSpec.upto fnExactCanFollowSpec)

/-- 'laws.FnExactIsCover', WHERE WHAT IT READS IS OF BULK AT MOST 1048576: true; the input reads as it did. -/
def fnExactIsCoverUptoRow : OpenClaim := { program := "ytfofbnpgjdagkaa", sum := "136dda7a55cfee8652065902246da65ba794372aafa2fa0fff7986e7b38bb5fc", func := "loop.example/g00831/laws.FnExactIsCover", spec := "fnExactIsCover", unfollowed := true, recurses := true, plainKeys := false, apart := false, narrowed := true }
def FnExactIsCoverUptoSaid : Prop := fnExactIsCoverUptoRow.holds Try.pinned (OpenSpec.upto fnExactIsCoverSpec)

/-- 'laws.FnExactLeastCover', WHERE WHAT IT READS IS OF BULK AT MOST 1048576: true; the input reads as it did. -/
def fnExactLeastCoverUptoRow : OpenClaim := { program := "ytfofbnpgjdagkaa", sum := "136dda7a55cfee8652065902246da65ba794372aafa2fa0fff7986e7b38bb5fc", func := "loop.example/g00831/laws.FnExactLeastCover", spec := "fnExactLeastCover", unfollowed := true, recurses := true, plainKeys := false, apart := false, narrowed := true }
def FnExactLeastCoverUptoSaid : Prop := fnExactLeastCoverUptoRow.holds Try.pinned (OpenSpec.upto fnExactLeastCoverSpec)

/-- 'laws.FnExactRivalDuties', WHERE WHAT IT READS IS OF BULK AT MOST 1048576: true; the input reads as it did. -/
def fnExactRivalDutiesUptoRow : OpenClaim := { program := "ytfofbnpgjdagkaa", sum := "136dda7a55cfee8652065902246da65ba794372aafa2fa0fff7986e7b38bb5fc", func := "loop.example/g00831/laws.FnExactRivalDuties", spec := "fnExactRivalDuties", unfollowed := true, recurses := true, plainKeys := false, apart := false, narrowed := true }
def FnExactRivalDutiesUptoSaid : Prop := fnExactRivalDutiesUptoRow.holds Try.pinned (OpenSpec.upto fnExactRivalDutiesSpec)

/-- 'laws.FnExactStayingMoves', WHERE WHAT IT READS IS OF BULK AT MOST 1048576: true; the input reads as it did. -/
def fnExactStayingMovesUptoRow : OpenClaim := { program := "ytfofbnpgjdagkaa", sum := "136dda7a55cfee8652065902246da65ba794372aafa2fa0fff7986e7b38bb5fc", func := "loop.example/g00831/laws.FnExactStayingMoves", spec := "fnExactStayingMoves", plainKeys := false, apart := false, narrowed := true }
def FnExactStayingMovesUptoSaid : Prop := fnExactStayingMovesUptoRow.holds Try.pinned (OpenSpec.upto fnExactStayingMovesSpec)

end Rows
end Go.Proofs.Ytfofbnpgjdagkaa
