/- The call that sets where a cursor stands. No condition but that there is such a cursor in memory. -/
import Derived.Test.YtmffpnhdnaokhaaDoorOps
namespace Go.Proofs.YtmffpnhdnaokhaaDoor
open Go.RowKit
variable {w : World} {base a : Nat} {q : Option Addr} {c : Nat} {xs : List Int} {p : Nat} {big bad : Bool}

end Go.Proofs.YtmffpnhdnaokhaaDoor
