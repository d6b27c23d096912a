/- A cursor in blocks of its own, from lo up to hi: what is done elsewhere turns nothing of it; and the calls of layer 1 on it (for seats without layer 2: the same names as Pen's). No condition. -/
import Derived.Test.YtmffpnhdnaokhaaDoorNum
import Derived.Test.YtmffpnhdnaokhaaDoorMake
import Derived.Test.YtmffpnhdnaokhaaDoorSeek
import Derived.Test.YtmffpnhdnaokhaaDoorArgs
namespace Go.Proofs.YtmffpnhdnaokhaaDoor
open Go.RowKit
variable {w w' : World} {lo hi a : Nat} {xs : List Int} {p : Nat} {big bad : Bool}

end Go.Proofs.YtmffpnhdnaokhaaDoor
