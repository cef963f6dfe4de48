
/- WindowsOk of the model: contract. -/
import Derived.Test.YtmjdlkninibocaaWinOk
namespace Go.Proofs.Ytmjdlkninibocaa
open Go.RowKit
set_option maxRecDepth 100000

end Go.Proofs.Ytmjdlkninibocaa
