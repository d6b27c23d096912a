/-
  No cell of these rows narrows 'for every input' (looked for: loops, veiled, ifaces, maps, wideKeys, modest, calm, conditions, laid).
  DERIVED. THE GIVEN ROWS OF THIS SEAT. 5 by the template 'for every input the law returns true; each argument reads behind the call as it read before'; 0 by the template 'total and deterministic' (their statements: YtkmbkpoclhbmgaaGreatTotals.lean).
  GIVEN WITH THE SEED: the statements are not yours to turn. If you find one false, say at which input.
  Laid BY PROGRAM, IN A SANDBOX (cutbox-rows.mjs): the forced cells as the released guide's own fill.sh prints them over the translation 1fc34f27b2b08188… (all of the seat's roots in one cut). By AI agents, Wed Nov 11 2026. No macro, syntax, notation, axiom, sorry.
-/
import Derived.Test.YtkmbkpoclhbmgaaGreatChecked
import GoSem.Claim
import GoSem.ClaimJoined
import GoSem.ClaimMapViews
import Derived.JoinedTies
import Derived.KernelRfl
namespace Go.Proofs.YtkmbkpoclhbmgaaGreat
/- THE CELL 'sum', in the pinned program and in every row, IS THE sha256 OF THE DUMP (.gsa) THAT YtkmbkpoclhbmgaaGreatProg.lean LOADS. Nothing in Lean hashes anything: it is a label: what it is worth is what the hold of that sum in a sandbox is worth. -/
noncomputable def Tryz.pinned : Pinned := { name := "ytkmbkpoclhbmgaagreat", sum := "1fc34f27b2b08188ff5d32dab4e262710a00f5ed0bd361622a885483b659930a", checked := Tryz.checked }
namespace Rows
def none {H : Type} : Left H := { results := [], args := [] }

/-- 'clevislaw09.TrieMany': WHATEVER THE INPUT: true; the input reads as it did. -/
def trieManySpec : ChangeSpec := { name := "trieMany", fn := fun _ => fun
  | [d1, d2] => { results := [.lit (.bool true)], args := [d1, d2] }
  | _ => none }
def trieManyRow : OpenClaim := { program := "ytkmbkpoclhbmgaagreat", sum := "1fc34f27b2b08188ff5d32dab4e262710a00f5ed0bd361622a885483b659930a", func := "clevis/clevislaw09.TrieMany", spec := "trieMany", inPlace := ["internal/bytealg.IndexByte", "internal/bytealg.abigen_runtime_cmpstring", "internal/bytealg.IndexByteString"], unfollowed := true, recurses := true, apart := false }
def TrieManySaid : Prop := trieManyRow.holds Tryz.pinned (OpenSpec.ofChange trieManySpec)

/-- ITS FALSE NEIGHBOUR: 'it returns false'. Refute it at one input. -/
def trieManyWrong : ChangeSpec := { name := "trieMany", fn := fun _ => fun
  | [d1, d2] => { results := [.lit (.bool false)], args := [d1, d2] }
  | _ => none }
def TrieManyWrongFalsely : Prop := trieManyRow.holds Tryz.pinned (OpenSpec.ofChange trieManyWrong)

/-- 'clevislaw11.ExportAll': WHATEVER THE INPUT: true; the input reads as it did. -/
def exportAllSpec : ChangeSpec := { name := "exportAll", fn := fun _ => fun
  | [d1, d2, d3] => { results := [.lit (.bool true)], args := [d1, d2, d3] }
  | _ => none }
def exportAllRow : OpenClaim := { program := "ytkmbkpoclhbmgaagreat", sum := "1fc34f27b2b08188ff5d32dab4e262710a00f5ed0bd361622a885483b659930a", func := "clevis/clevislaw11.ExportAll", spec := "exportAll", inPlace := ["math/bits.Add64"], unfollowed := true, recurses := true, apart := false }
def ExportAllSaid : Prop := exportAllRow.holds Tryz.pinned (OpenSpec.ofChange exportAllSpec)

/-- ITS FALSE NEIGHBOUR: 'it returns false'. Refute it at one input. -/
def exportAllWrong : ChangeSpec := { name := "exportAll", fn := fun _ => fun
  | [d1, d2, d3] => { results := [.lit (.bool false)], args := [d1, d2, d3] }
  | _ => none }
def ExportAllWrongFalsely : Prop := exportAllRow.holds Tryz.pinned (OpenSpec.ofChange exportAllWrong)

/-- 'clevislaw11.ExportMeans': WHATEVER THE INPUT: true; the input reads as it did. -/
def exportMeansSpec : ChangeSpec := { name := "exportMeans", fn := fun _ => fun
  | [d1, d2, d3, d4] => { results := [.lit (.bool true)], args := [d1, d2, d3, d4] }
  | _ => none }
def exportMeansRow : OpenClaim := { program := "ytkmbkpoclhbmgaagreat", sum := "1fc34f27b2b08188ff5d32dab4e262710a00f5ed0bd361622a885483b659930a", func := "clevis/clevislaw11.ExportMeans", spec := "exportMeans", inPlace := ["math/bits.Add64"], unfollowed := true, recurses := true, apart := false }
def ExportMeansSaid : Prop := exportMeansRow.holds Tryz.pinned (OpenSpec.ofChange exportMeansSpec)

/-- ITS FALSE NEIGHBOUR: 'it returns false'. Refute it at one input. -/
def exportMeansWrong : ChangeSpec := { name := "exportMeans", fn := fun _ => fun
  | [d1, d2, d3, d4] => { results := [.lit (.bool false)], args := [d1, d2, d3, d4] }
  | _ => none }
def ExportMeansWrongFalsely : Prop := exportMeansRow.holds Tryz.pinned (OpenSpec.ofChange exportMeansWrong)

/-- 'clevislaw11.ExportBounds': WHATEVER THE INPUT: true; the input reads as it did. -/
def exportBoundsSpec : ChangeSpec := { name := "exportBounds", fn := fun _ => fun
  | [d] => { results := [.lit (.bool true)], args := [d] }
  | _ => none }
def exportBoundsRow : OpenClaim := { program := "ytkmbkpoclhbmgaagreat", sum := "1fc34f27b2b08188ff5d32dab4e262710a00f5ed0bd361622a885483b659930a", func := "clevis/clevislaw11.ExportBounds", spec := "exportBounds", inPlace := ["math/bits.Add64"], unfollowed := true, recurses := true, apart := false }
def ExportBoundsSaid : Prop := exportBoundsRow.holds Tryz.pinned (OpenSpec.ofChange exportBoundsSpec)

/-- ITS FALSE NEIGHBOUR: 'it returns false'. Refute it at one input. -/
def exportBoundsWrong : ChangeSpec := { name := "exportBounds", fn := fun _ => fun
  | [d] => { results := [.lit (.bool false)], args := [d] }
  | _ => none }
def ExportBoundsWrongFalsely : Prop := exportBoundsRow.holds Tryz.pinned (OpenSpec.ofChange exportBoundsWrong)

/-- 'clevislaw11.ExportNone': WHATEVER THE INPUT: true; the input reads as it did. -/
def exportNoneSpec : ChangeSpec := { name := "exportNone", fn := fun _ => fun
  | [] => { results := [.lit (.bool true)], args := [] }
  | _ => none }
def exportNoneRow : OpenClaim := { program := "ytkmbkpoclhbmgaagreat", sum := "1fc34f27b2b08188ff5d32dab4e262710a00f5ed0bd361622a885483b659930a", func := "clevis/clevislaw11.ExportNone", spec := "exportNone", inPlace := ["math/bits.Add64"], unfollowed := true, recurses := true, apart := false }
def ExportNoneSaid : Prop := exportNoneRow.holds Tryz.pinned (OpenSpec.ofChange exportNoneSpec)

/-- ITS FALSE NEIGHBOUR: 'it returns false'. Refute it at one input. -/
def exportNoneWrong : ChangeSpec := { name := "exportNone", fn := fun _ => fun
  | [] => { results := [.lit (.bool false)], args := [] }
  | _ => none }
def ExportNoneWrongFalsely : Prop := exportNoneRow.holds Tryz.pinned (OpenSpec.ofChange exportNoneWrong)

/- THE SECOND FORM. 'bulk': how many values and letters a reading holds, each counted each time it is reached (what is shared counts as often as it is met; a slice's spare places count too). A statement '..UptoSaid' is the law's where the arguments, and the package variables that the reading takes, are together of bulk at most 1048576: NARROWER than '..Said'. Prove '..Said' where nothing that the law and all that it calls make is longer than what came in: it says more and counts as full. Else prove '..UptoSaid'. A law counts once. -/
mutual
def uptoBulk {H : Type} : DataW H → Nat
  | .lit (.string bytes) => bytes.length + 1
  | .lit _ => 1
  | .nil => 1
  | .ptr d => uptoBulk d + 1
  | .slice elems spare => uptoBulkAll elems + uptoBulkAll spare + 1
  | .agg parts => uptoBulkAll parts + 1
  | .iface _ d => uptoBulk d + 1
  | .map entries => uptoBulkEntries entries + 1
  | .held _ => 1
def uptoBulkAll {H : Type} : List (DataW H) → Nat
  | [] => 0
  | d :: r => uptoBulk d + uptoBulkAll r
def uptoBulkEntries {H : Type} : List (Lit × DataW H) → Nat
  | [] => 0
  | x :: r => uptoBulkEntry x + uptoBulkEntries r
def uptoBulkEntry {H : Type} : Lit × DataW H → Nat
  | (.string bytes, d) => bytes.length + uptoBulk d + 1
  | (_, d) => uptoBulk d + 1
 end
def uptoSmall : (H : Type) → List (DataW H) → Bool := fun _ ds => decide (uptoBulkAll ds ≤ 1048576)
def OpenSpec.upto (s : _root_.Go.ChangeSpec) : _root_.Go.OpenSpec := { _root_.Go.OpenSpec.ofChange s with cond := some uptoSmall }

/-- 'clevislaw09.TrieMany', WHERE WHAT IT READS IS OF BULK AT MOST 1048576: true; the input reads as it did. -/
def trieManyUptoRow : OpenClaim := { program := "ytkmbkpoclhbmgaagreat", sum := "1fc34f27b2b08188ff5d32dab4e262710a00f5ed0bd361622a885483b659930a", func := "clevis/clevislaw09.TrieMany", spec := "trieMany", inPlace := ["internal/bytealg.IndexByte", "internal/bytealg.abigen_runtime_cmpstring", "internal/bytealg.IndexByteString"], unfollowed := true, recurses := true, apart := false, narrowed := true }
def TrieManyUptoSaid : Prop := trieManyUptoRow.holds Tryz.pinned (OpenSpec.upto trieManySpec)

/-- 'clevislaw11.ExportAll', WHERE WHAT IT READS IS OF BULK AT MOST 1048576: true; the input reads as it did. -/
def exportAllUptoRow : OpenClaim := { program := "ytkmbkpoclhbmgaagreat", sum := "1fc34f27b2b08188ff5d32dab4e262710a00f5ed0bd361622a885483b659930a", func := "clevis/clevislaw11.ExportAll", spec := "exportAll", inPlace := ["math/bits.Add64"], unfollowed := true, recurses := true, apart := false, narrowed := true }
def ExportAllUptoSaid : Prop := exportAllUptoRow.holds Tryz.pinned (OpenSpec.upto exportAllSpec)

/-- 'clevislaw11.ExportMeans', WHERE WHAT IT READS IS OF BULK AT MOST 1048576: true; the input reads as it did. -/
def exportMeansUptoRow : OpenClaim := { program := "ytkmbkpoclhbmgaagreat", sum := "1fc34f27b2b08188ff5d32dab4e262710a00f5ed0bd361622a885483b659930a", func := "clevis/clevislaw11.ExportMeans", spec := "exportMeans", inPlace := ["math/bits.Add64"], unfollowed := true, recurses := true, apart := false, narrowed := true }
def ExportMeansUptoSaid : Prop := exportMeansUptoRow.holds Tryz.pinned (OpenSpec.upto exportMeansSpec)

/-- 'clevislaw11.ExportBounds', WHERE WHAT IT READS IS OF BULK AT MOST 1048576: true; the input reads as it did. -/
def exportBoundsUptoRow : OpenClaim := { program := "ytkmbkpoclhbmgaagreat", sum := "1fc34f27b2b08188ff5d32dab4e262710a00f5ed0bd361622a885483b659930a", func := "clevis/clevislaw11.ExportBounds", spec := "exportBounds", inPlace := ["math/bits.Add64"], unfollowed := true, recurses := true, apart := false, narrowed := true }
def ExportBoundsUptoSaid : Prop := exportBoundsUptoRow.holds Tryz.pinned (OpenSpec.upto exportBoundsSpec)

/-- 'clevislaw11.ExportNone', WHERE WHAT IT READS IS OF BULK AT MOST 1048576: true; the input reads as it did. -/
def exportNoneUptoRow : OpenClaim := { program := "ytkmbkpoclhbmgaagreat", sum := "1fc34f27b2b08188ff5d32dab4e262710a00f5ed0bd361622a885483b659930a", func := "clevis/clevislaw11.ExportNone", spec := "exportNone", inPlace := ["math/bits.Add64"], unfollowed := true, recurses := true, apart := false, narrowed := true }
def ExportNoneUptoSaid : Prop := exportNoneUptoRow.holds Tryz.pinned (OpenSpec.upto exportNoneSpec)

end Rows
end Go.Proofs.YtkmbkpoclhbmgaaGreat
