
/- How a part and a tide that came in are opened. -/
import Derived.Test.YtmjdlkninibocaaTide
import Derived.Test.YtmjdlkninibocaaOpen
import Derived.Test.YtmjdlkninibocaaKit
namespace Go.Proofs.Ytmjdlkninibocaa
open Go.ChangeShapes Go.WideShapes Go.ChangeAt Go.Deep Go.RowKit
set_option maxRecDepth 100000

section
variable {H : Type} {enc : TypeId × Value → H} {w : World} {base : Nat} {spare : Nat → Bool} {held : Bool}

def PartD.wf (d : PartD) : Prop := (Lit.int .i64 d.amp).wf = true ∧ (Lit.int .i64 d.per).wf = true ∧ (Lit.int .i64 d.pha).wf = true

/-- A tide that came in. -/
def TideIn (w : World) (m : Int) (A : Option Addr) (c : Nat) (l : List PartD) : Prop := (Lit.int .i64 m).wf = true ∧ l.length ≤ maxLen ∧ (l.length ≤ 1000000000 → SlP w (.slice A l.length c) l) ∧ ∀ d ∈ l, PartD.wf d

end

end Go.Proofs.Ytmjdlkninibocaa
