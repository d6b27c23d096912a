/- The calls of layer 1 (cursor), one contract each: what is answered, and what the cursor is then. No condition but that there is such a cursor in memory. -/
import Derived.Test.YtmffpnhdnaokhaaDoorCur
import Derived.Test.YtmffpnhdnaokhaaDoorRet
namespace Go.Proofs.YtmffpnhdnaokhaaDoor
open Go.RowKit
variable {w : World} {base a : Nat} {q : Option Addr} {c : Nat} {xs : List Int} {p : Nat} {big bad : Bool}

end Go.Proofs.YtmffpnhdnaokhaaDoor
