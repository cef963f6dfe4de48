
/- ForecastOk of the program and of the model: contracts. -/
import Derived.Test.YtmjdlkninibocaaForecastOk
import Derived.Deep.RegionHeld3
import Derived.IntWalk
namespace Go.Proofs.Ytmjdlkninibocaa
open Go.RowKit
set_option maxRecDepth 100000


end Go.Proofs.Ytmjdlkninibocaa
