/- Bytes that are turned into a text. No condition. -/
import Derived.Test.YtlmgkofbjcahaaaCur
import Derived.Laws.BytesArg
import Derived.Shelf.Bytes.SlEqualAll
namespace Go.Proofs.Ytlmgkofbjcahaaa
open Go.RowKit
variable {w : World}

theorem IsBytes.text {q : Option Addr} {c : Nat} {ys : List Int} (h : IsBytes w q c ys) {n : Nat} (hn : ys.length = n) :
    (convert 22 9 (.slice q n c)).run Try.prog w = .ok (.string (strOfNums ys)) w := by
  subst hn
  exact Lib.BytesIn.convert (fun hl => h.2 hl) rfl c _ _ _ Try.underlying22 Try.underlying5 Try.underlying9

end Go.Proofs.Ytlmgkofbjcahaaa
