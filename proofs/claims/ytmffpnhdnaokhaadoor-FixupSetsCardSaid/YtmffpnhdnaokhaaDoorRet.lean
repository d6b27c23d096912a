/- A Bool, or a number, that is answered under another spelling. No condition. -/
import Derived.Test.YtmffpnhdnaokhaaDoorRows
namespace Go.Proofs.YtmffpnhdnaokhaaDoor

theorem ret_bool {a b : Bool} (h : a = b) : Ending.returned (.bool a) = .returned (.bool b) := by rw [h]
theorem ret_int {k : IntKind} {a b : Int} (h : a = b) : Ending.returned (.int k a) = .returned (.int k b) := by rw [h]
end Go.Proofs.YtmffpnhdnaokhaaDoor
