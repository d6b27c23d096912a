/-
  No cell of these rows narrows 'for every input' (looked for: loops, veiled, ifaces, maps, wideKeys, modest, calm, conditions, laid).
  DERIVED. THE GIVEN ROWS OF THIS SEAT. 4 by the template 'for every input the law returns true; each argument reads behind the call as it read before'; 0 by the template 'total and deterministic' (their statements: YtcclfbeojaaepaaTotals.lean).
  GIVEN WITH THE SEED: the statements are not yours to turn. If you find one false, say at which input.
  Laid BY PROGRAM, IN A SANDBOX (cutbox-rows.mjs): the forced cells as the released guide's own fill.sh prints them over the translation 3e4e98986b8116fb… (all of the seat's roots in one cut). By AI agents, Wed Nov 11 2026. No macro, syntax, notation, axiom, sorry.
-/
import Derived.Test.YtcclfbeojaaepaaChecked
import GoSem.Claim
import GoSem.ClaimJoined
import GoSem.ClaimMapViews
import Derived.JoinedTies
import Derived.KernelRfl
namespace Go.Proofs.Ytcclfbeojaaepaa
/- THE CELL 'sum', in the pinned program and in every row, IS THE sha256 OF THE DUMP (.gsa) THAT YtcclfbeojaaepaaProg.lean LOADS. Nothing in Lean hashes anything: it is a label: what it is worth is what the hold of that sum in a sandbox is worth. -/
noncomputable def Try.pinned : Pinned := { name := "ytcclfbeojaaepaa", sum := "3e4e98986b8116fb297a317235752e641275e0e80ef14777935e60a88ebe9778", checked := Try.checked }
namespace Rows
def none {H : Type} : Left H := { results := [], args := [] }

/-- 'clevislaw04.CommandReads': WHATEVER THE INPUT: true; the input reads as it did. -/
def commandReadsSpec : ChangeSpec := { name := "commandReads", fn := fun _ => fun
  | [d] => { results := [.lit (.bool true)], args := [d] }
  | _ => none }
def commandReadsRow : OpenClaim := { program := "ytcclfbeojaaepaa", sum := "3e4e98986b8116fb297a317235752e641275e0e80ef14777935e60a88ebe9778", func := "clevis/clevislaw04.CommandReads", spec := "commandReads", inPlace := ["math/bits.Add64", "internal/reflectlite.TypeOf"], unfollowed := true, recurses := true, apart := false }
def CommandReadsSaid : Prop := commandReadsRow.holds Try.pinned (OpenSpec.ofChange commandReadsSpec)

/-- ITS FALSE NEIGHBOUR: 'it returns false'. Refute it at one input. -/
def commandReadsWrong : ChangeSpec := { name := "commandReads", fn := fun _ => fun
  | [d] => { results := [.lit (.bool false)], args := [d] }
  | _ => none }
def CommandReadsWrongFalsely : Prop := commandReadsRow.holds Try.pinned (OpenSpec.ofChange commandReadsWrong)

/-- 'clevislaw04.CommandMany': WHATEVER THE INPUT: true; the input reads as it did. -/
def commandManySpec : ChangeSpec := { name := "commandMany", fn := fun _ => fun
  | [d1, d2, d3] => { results := [.lit (.bool true)], args := [d1, d2, d3] }
  | _ => none }
def commandManyRow : OpenClaim := { program := "ytcclfbeojaaepaa", sum := "3e4e98986b8116fb297a317235752e641275e0e80ef14777935e60a88ebe9778", func := "clevis/clevislaw04.CommandMany", spec := "commandMany", inPlace := ["math/bits.Add64", "internal/reflectlite.TypeOf"], unfollowed := true, recurses := true, apart := false }
def CommandManySaid : Prop := commandManyRow.holds Try.pinned (OpenSpec.ofChange commandManySpec)

/-- ITS FALSE NEIGHBOUR: 'it returns false'. Refute it at one input. -/
def commandManyWrong : ChangeSpec := { name := "commandMany", fn := fun _ => fun
  | [d1, d2, d3] => { results := [.lit (.bool false)], args := [d1, d2, d3] }
  | _ => none }
def CommandManyWrongFalsely : Prop := commandManyRow.holds Try.pinned (OpenSpec.ofChange commandManyWrong)

/-- 'clevislaw04.CommandLong': WHATEVER THE INPUT: true; the input reads as it did. -/
def commandLongSpec : ChangeSpec := { name := "commandLong", fn := fun _ => fun
  | [d1, d2] => { results := [.lit (.bool true)], args := [d1, d2] }
  | _ => none }
def commandLongRow : OpenClaim := { program := "ytcclfbeojaaepaa", sum := "3e4e98986b8116fb297a317235752e641275e0e80ef14777935e60a88ebe9778", func := "clevis/clevislaw04.CommandLong", spec := "commandLong", inPlace := ["math/bits.Add64"], unfollowed := true, recurses := true, apart := false }
def CommandLongSaid : Prop := commandLongRow.holds Try.pinned (OpenSpec.ofChange commandLongSpec)

/-- ITS FALSE NEIGHBOUR: 'it returns false'. Refute it at one input. -/
def commandLongWrong : ChangeSpec := { name := "commandLong", fn := fun _ => fun
  | [d1, d2] => { results := [.lit (.bool false)], args := [d1, d2] }
  | _ => none }
def CommandLongWrongFalsely : Prop := commandLongRow.holds Try.pinned (OpenSpec.ofChange commandLongWrong)

/-- 'clevislaw04.CommandShort': WHATEVER THE INPUT: true; the input reads as it did. -/
def commandShortSpec : ChangeSpec := { name := "commandShort", fn := fun _ => fun
  | [d1, d2, d3] => { results := [.lit (.bool true)], args := [d1, d2, d3] }
  | _ => none }
def commandShortRow : OpenClaim := { program := "ytcclfbeojaaepaa", sum := "3e4e98986b8116fb297a317235752e641275e0e80ef14777935e60a88ebe9778", func := "clevis/clevislaw04.CommandShort", spec := "commandShort", inPlace := ["math/bits.Add64", "internal/reflectlite.TypeOf"], unfollowed := true, recurses := true, apart := false }
def CommandShortSaid : Prop := commandShortRow.holds Try.pinned (OpenSpec.ofChange commandShortSpec)

/-- ITS FALSE NEIGHBOUR: 'it returns false'. Refute it at one input. -/
def commandShortWrong : ChangeSpec := { name := "commandShort", fn := fun _ => fun
  | [d1, d2, d3] => { results := [.lit (.bool false)], args := [d1, d2, d3] }
  | _ => none }
def CommandShortWrongFalsely : Prop := commandShortRow.holds Try.pinned (OpenSpec.ofChange commandShortWrong)

/- THE SECOND FORM. 'bulk': how many values and letters a reading holds, each counted each time it is reached (what is shared counts as often as it is met; a slice's spare places count too). A statement '..UptoSaid' is the law's where the arguments, and the package variables that the reading takes, are together of bulk at most 1048576: NARROWER than '..Said'. Prove '..Said' where nothing that the law and all that it calls make is longer than what came in: it says more and counts as full. Else prove '..UptoSaid'. A law counts once. -/
mutual
def uptoBulk {H : Type} : DataW H → Nat
  | .lit (.string bytes) => bytes.length + 1
  | .lit _ => 1
  | .nil => 1
  | .ptr d => uptoBulk d + 1
  | .slice elems spare => uptoBulkAll elems + uptoBulkAll spare + 1
  | .agg parts => uptoBulkAll parts + 1
  | .iface _ d => uptoBulk d + 1
  | .map entries => uptoBulkEntries entries + 1
  | .held _ => 1
def uptoBulkAll {H : Type} : List (DataW H) → Nat
  | [] => 0
  | d :: r => uptoBulk d + uptoBulkAll r
def uptoBulkEntries {H : Type} : List (Lit × DataW H) → Nat
  | [] => 0
  | x :: r => uptoBulkEntry x + uptoBulkEntries r
def uptoBulkEntry {H : Type} : Lit × DataW H → Nat
  | (.string bytes, d) => bytes.length + uptoBulk d + 1
  | (_, d) => uptoBulk d + 1
 end
def uptoSmall : (H : Type) → List (DataW H) → Bool := fun _ ds => decide (uptoBulkAll ds ≤ 1048576)
def OpenSpec.upto (s : _root_.Go.ChangeSpec) : _root_.Go.OpenSpec := { _root_.Go.OpenSpec.ofChange s with cond := some uptoSmall }

/-- 'clevislaw04.CommandReads', WHERE WHAT IT READS IS OF BULK AT MOST 1048576: true; the input reads as it did. -/
def commandReadsUptoRow : OpenClaim := { program := "ytcclfbeojaaepaa", sum := "3e4e98986b8116fb297a317235752e641275e0e80ef14777935e60a88ebe9778", func := "clevis/clevislaw04.CommandReads", spec := "commandReads", inPlace := ["math/bits.Add64", "internal/reflectlite.TypeOf"], unfollowed := true, recurses := true, apart := false, narrowed := true }
def CommandReadsUptoSaid : Prop := commandReadsUptoRow.holds Try.pinned (OpenSpec.upto commandReadsSpec)

/-- 'clevislaw04.CommandMany', WHERE WHAT IT READS IS OF BULK AT MOST 1048576: true; the input reads as it did. -/
def commandManyUptoRow : OpenClaim := { program := "ytcclfbeojaaepaa", sum := "3e4e98986b8116fb297a317235752e641275e0e80ef14777935e60a88ebe9778", func := "clevis/clevislaw04.CommandMany", spec := "commandMany", inPlace := ["math/bits.Add64", "internal/reflectlite.TypeOf"], unfollowed := true, recurses := true, apart := false, narrowed := true }
def CommandManyUptoSaid : Prop := commandManyUptoRow.holds Try.pinned (OpenSpec.upto commandManySpec)

/-- 'clevislaw04.CommandLong', WHERE WHAT IT READS IS OF BULK AT MOST 1048576: true; the input reads as it did. -/
def commandLongUptoRow : OpenClaim := { program := "ytcclfbeojaaepaa", sum := "3e4e98986b8116fb297a317235752e641275e0e80ef14777935e60a88ebe9778", func := "clevis/clevislaw04.CommandLong", spec := "commandLong", inPlace := ["math/bits.Add64"], unfollowed := true, recurses := true, apart := false, narrowed := true }
def CommandLongUptoSaid : Prop := commandLongUptoRow.holds Try.pinned (OpenSpec.upto commandLongSpec)

/-- 'clevislaw04.CommandShort', WHERE WHAT IT READS IS OF BULK AT MOST 1048576: true; the input reads as it did. -/
def commandShortUptoRow : OpenClaim := { program := "ytcclfbeojaaepaa", sum := "3e4e98986b8116fb297a317235752e641275e0e80ef14777935e60a88ebe9778", func := "clevis/clevislaw04.CommandShort", spec := "commandShort", inPlace := ["math/bits.Add64", "internal/reflectlite.TypeOf"], unfollowed := true, recurses := true, apart := false, narrowed := true }
def CommandShortUptoSaid : Prop := commandShortUptoRow.holds Try.pinned (OpenSpec.upto commandShortSpec)

end Rows
end Go.Proofs.Ytcclfbeojaaepaa
