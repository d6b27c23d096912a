/- A cursor made of bytes, which it has for itself. No condition but the form's own bound on how long the bytes are. -/
import Derived.Test.YtmffpnhdnaokhaaDoorOps
namespace Go.Proofs.YtmffpnhdnaokhaaDoor
open Go.RowKit
variable {w : World} {base a : Nat} {q : Option Addr} {c : Nat} {xs : List Int} {p : Nat} {big bad : Bool}

end Go.Proofs.YtmffpnhdnaokhaaDoor
