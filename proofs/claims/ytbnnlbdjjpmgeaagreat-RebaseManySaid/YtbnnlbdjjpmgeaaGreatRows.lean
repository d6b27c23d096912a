/-
  No cell of these rows narrows 'for every input' (looked for: loops, veiled, ifaces, maps, wideKeys, modest, calm, conditions, laid).
  DERIVED. THE GIVEN ROWS OF THIS SEAT. 3 by the template 'for every input the law returns true; each argument reads behind the call as it read before'; 0 by the template 'total and deterministic' (their statements: YtbnnlbdjjpmgeaaGreatTotals.lean).
  GIVEN WITH THE SEED: the statements are not yours to turn. If you find one false, say at which input.
  Laid BY PROGRAM, IN A SANDBOX (cutbox-rows.mjs): the forced cells as the released guide's own fill.sh prints them over the translation c0dd3c7fd0e36fc4… (all of the seat's roots in one cut). By AI agents, Wed Nov 11 2026. No macro, syntax, notation, axiom, sorry.
-/
import Derived.Test.YtbnnlbdjjpmgeaaGreatChecked
import GoSem.Claim
import GoSem.ClaimJoined
import GoSem.ClaimMapViews
import Derived.JoinedTies
import Derived.KernelRfl
namespace Go.Proofs.YtbnnlbdjjpmgeaaGreat
/- THE CELL 'sum', in the pinned program and in every row, IS THE sha256 OF THE DUMP (.gsa) THAT YtbnnlbdjjpmgeaaGreatProg.lean LOADS. Nothing in Lean hashes anything: it is a label: what it is worth is what the hold of that sum in a sandbox is worth. -/
noncomputable def Tryz.pinned : Pinned := { name := "ytbnnlbdjjpmgeaagreat", sum := "c0dd3c7fd0e36fc4bbb711b0fe1b7297624dddef06fb2ddf048dff75cb511c7d", checked := Tryz.checked }
namespace Rows
def none {H : Type} : Left H := { results := [], args := [] }

/-- 'clevislaw09.TrieMany': WHATEVER THE INPUT: true; the input reads as it did. -/
def trieManySpec : ChangeSpec := { name := "trieMany", fn := fun _ => fun
  | [d1, d2] => { results := [.lit (.bool true)], args := [d1, d2] }
  | _ => none }
def trieManyRow : OpenClaim := { program := "ytbnnlbdjjpmgeaagreat", sum := "c0dd3c7fd0e36fc4bbb711b0fe1b7297624dddef06fb2ddf048dff75cb511c7d", func := "clevis/clevislaw09.TrieMany", spec := "trieMany", inPlace := ["internal/bytealg.IndexByte", "internal/bytealg.abigen_runtime_cmpstring", "internal/bytealg.IndexByteString"], unfollowed := true, recurses := true, apart := false }
def TrieManySaid : Prop := trieManyRow.holds Tryz.pinned (OpenSpec.ofChange trieManySpec)

/-- ITS FALSE NEIGHBOUR: 'it returns false'. Refute it at one input. -/
def trieManyWrong : ChangeSpec := { name := "trieMany", fn := fun _ => fun
  | [d1, d2] => { results := [.lit (.bool false)], args := [d1, d2] }
  | _ => none }
def TrieManyWrongFalsely : Prop := trieManyRow.holds Tryz.pinned (OpenSpec.ofChange trieManyWrong)

/-- 'clevislaw13.RebaseMeans': WHATEVER THE INPUT: true; the input reads as it did. -/
def rebaseMeansSpec : ChangeSpec := { name := "rebaseMeans", fn := fun _ => fun
  | [d1, d2] => { results := [.lit (.bool true)], args := [d1, d2] }
  | _ => none }
def rebaseMeansRow : OpenClaim := { program := "ytbnnlbdjjpmgeaagreat", sum := "c0dd3c7fd0e36fc4bbb711b0fe1b7297624dddef06fb2ddf048dff75cb511c7d", func := "clevis/clevislaw13.RebaseMeans", spec := "rebaseMeans", inPlace := ["math/bits.Add64", "internal/bytealg.IndexByteString"], unfollowed := true, recurses := true, apart := false }
def RebaseMeansSaid : Prop := rebaseMeansRow.holds Tryz.pinned (OpenSpec.ofChange rebaseMeansSpec)

/-- ITS FALSE NEIGHBOUR: 'it returns false'. Refute it at one input. -/
def rebaseMeansWrong : ChangeSpec := { name := "rebaseMeans", fn := fun _ => fun
  | [d1, d2] => { results := [.lit (.bool false)], args := [d1, d2] }
  | _ => none }
def RebaseMeansWrongFalsely : Prop := rebaseMeansRow.holds Tryz.pinned (OpenSpec.ofChange rebaseMeansWrong)

/-- 'clevislaw13.RebaseMany': WHATEVER THE INPUT: true; the input reads as it did. -/
def rebaseManySpec : ChangeSpec := { name := "rebaseMany", fn := fun _ => fun
  | [d1, d2] => { results := [.lit (.bool true)], args := [d1, d2] }
  | _ => none }
def rebaseManyRow : OpenClaim := { program := "ytbnnlbdjjpmgeaagreat", sum := "c0dd3c7fd0e36fc4bbb711b0fe1b7297624dddef06fb2ddf048dff75cb511c7d", func := "clevis/clevislaw13.RebaseMany", spec := "rebaseMany", inPlace := ["math/bits.Add64", "internal/bytealg.IndexByteString"], unfollowed := true, recurses := true, apart := false }
def RebaseManySaid : Prop := rebaseManyRow.holds Tryz.pinned (OpenSpec.ofChange rebaseManySpec)

/-- ITS FALSE NEIGHBOUR: 'it returns false'. Refute it at one input. -/
def rebaseManyWrong : ChangeSpec := { name := "rebaseMany", fn := fun _ => fun
  | [d1, d2] => { results := [.lit (.bool false)], args := [d1, d2] }
  | _ => none }
def RebaseManyWrongFalsely : Prop := rebaseManyRow.holds Tryz.pinned (OpenSpec.ofChange rebaseManyWrong)

/- THE SECOND FORM. 'bulk': how many values and letters a reading holds, each counted each time it is reached (what is shared counts as often as it is met; a slice's spare places count too). A statement '..UptoSaid' is the law's where the arguments, and the package variables that the reading takes, are together of bulk at most 1048576: NARROWER than '..Said'. Prove '..Said' where nothing that the law and all that it calls make is longer than what came in: it says more and counts as full. Else prove '..UptoSaid'. A law counts once. -/
mutual
def uptoBulk {H : Type} : DataW H → Nat
  | .lit (.string bytes) => bytes.length + 1
  | .lit _ => 1
  | .nil => 1
  | .ptr d => uptoBulk d + 1
  | .slice elems spare => uptoBulkAll elems + uptoBulkAll spare + 1
  | .agg parts => uptoBulkAll parts + 1
  | .iface _ d => uptoBulk d + 1
  | .map entries => uptoBulkEntries entries + 1
  | .held _ => 1
def uptoBulkAll {H : Type} : List (DataW H) → Nat
  | [] => 0
  | d :: r => uptoBulk d + uptoBulkAll r
def uptoBulkEntries {H : Type} : List (Lit × DataW H) → Nat
  | [] => 0
  | x :: r => uptoBulkEntry x + uptoBulkEntries r
def uptoBulkEntry {H : Type} : Lit × DataW H → Nat
  | (.string bytes, d) => bytes.length + uptoBulk d + 1
  | (_, d) => uptoBulk d + 1
 end
def uptoSmall : (H : Type) → List (DataW H) → Bool := fun _ ds => decide (uptoBulkAll ds ≤ 1048576)
def OpenSpec.upto (s : _root_.Go.ChangeSpec) : _root_.Go.OpenSpec := { _root_.Go.OpenSpec.ofChange s with cond := some uptoSmall }

/-- 'clevislaw09.TrieMany', WHERE WHAT IT READS IS OF BULK AT MOST 1048576: true; the input reads as it did. -/
def trieManyUptoRow : OpenClaim := { program := "ytbnnlbdjjpmgeaagreat", sum := "c0dd3c7fd0e36fc4bbb711b0fe1b7297624dddef06fb2ddf048dff75cb511c7d", func := "clevis/clevislaw09.TrieMany", spec := "trieMany", inPlace := ["internal/bytealg.IndexByte", "internal/bytealg.abigen_runtime_cmpstring", "internal/bytealg.IndexByteString"], unfollowed := true, recurses := true, apart := false, narrowed := true }
def TrieManyUptoSaid : Prop := trieManyUptoRow.holds Tryz.pinned (OpenSpec.upto trieManySpec)

/-- 'clevislaw13.RebaseMeans', WHERE WHAT IT READS IS OF BULK AT MOST 1048576: true; the input reads as it did. -/
def rebaseMeansUptoRow : OpenClaim := { program := "ytbnnlbdjjpmgeaagreat", sum := "c0dd3c7fd0e36fc4bbb711b0fe1b7297624dddef06fb2ddf048dff75cb511c7d", func := "clevis/clevislaw13.RebaseMeans", spec := "rebaseMeans", inPlace := ["math/bits.Add64", "internal/bytealg.IndexByteString"], unfollowed := true, recurses := true, apart := false, narrowed := true }
def RebaseMeansUptoSaid : Prop := rebaseMeansUptoRow.holds Tryz.pinned (OpenSpec.upto rebaseMeansSpec)

/-- 'clevislaw13.RebaseMany', WHERE WHAT IT READS IS OF BULK AT MOST 1048576: true; the input reads as it did. -/
def rebaseManyUptoRow : OpenClaim := { program := "ytbnnlbdjjpmgeaagreat", sum := "c0dd3c7fd0e36fc4bbb711b0fe1b7297624dddef06fb2ddf048dff75cb511c7d", func := "clevis/clevislaw13.RebaseMany", spec := "rebaseMany", inPlace := ["math/bits.Add64", "internal/bytealg.IndexByteString"], unfollowed := true, recurses := true, apart := false, narrowed := true }
def RebaseManyUptoSaid : Prop := rebaseManyUptoRow.holds Tryz.pinned (OpenSpec.upto rebaseManySpec)

end Rows
end Go.Proofs.YtbnnlbdjjpmgeaaGreat
