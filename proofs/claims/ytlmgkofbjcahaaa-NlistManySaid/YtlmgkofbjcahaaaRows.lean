/-
  No cell of these rows narrows 'for every input' (looked for: loops, veiled, ifaces, maps, wideKeys, modest, calm, conditions, laid).
  DERIVED. THE GIVEN ROWS OF THIS SEAT. 5 by the template 'for every input the law returns true; each argument reads behind the call as it read before'; 0 by the template 'total and deterministic' (their statements: YtlmgkofbjcahaaaTotals.lean).
  GIVEN WITH THE SEED: the statements are not yours to turn. If you find one false, say at which input.
  Laid BY PROGRAM, IN A SANDBOX (cutbox-rows.mjs): the forced cells as the released guide's own fill.sh prints them over the translation c6a7e9829f082d1e… (all of the seat's roots in one cut). By AI agents, Wed Nov 11 2026. No macro, syntax, notation, axiom, sorry.
-/
import Derived.Test.YtlmgkofbjcahaaaChecked
import GoSem.Claim
import GoSem.ClaimJoined
import GoSem.ClaimMapViews
import Derived.JoinedTies
import Derived.KernelRfl
namespace Go.Proofs.Ytlmgkofbjcahaaa
/- THE CELL 'sum', in the pinned program and in every row, IS THE sha256 OF THE DUMP (.gsa) THAT YtlmgkofbjcahaaaProg.lean LOADS. Nothing in Lean hashes anything: it is a label: what it is worth is what the hold of that sum in a sandbox is worth. -/
noncomputable def Try.pinned : Pinned := { name := "ytlmgkofbjcahaaa", sum := "c6a7e9829f082d1e6f8910ff6c6ac6ec640c92be8c126dd96e6c99b79f428890", checked := Try.checked }
namespace Rows
def none {H : Type} : Left H := { results := [], args := [] }

/-- 'clevislaw10.NlistReads': WHATEVER THE INPUT: true; the input reads as it did. -/
def nlistReadsSpec : ChangeSpec := { name := "nlistReads", fn := fun _ => fun
  | [d1, d2, d3, d4] => { results := [.lit (.bool true)], args := [d1, d2, d3, d4] }
  | _ => none }
def nlistReadsRow : OpenClaim := { program := "ytlmgkofbjcahaaa", sum := "c6a7e9829f082d1e6f8910ff6c6ac6ec640c92be8c126dd96e6c99b79f428890", func := "clevis/clevislaw10.NlistReads", spec := "nlistReads", inPlace := ["internal/bytealg.IndexByte"], unfollowed := true, recurses := true, apart := false }
def NlistReadsSaid : Prop := nlistReadsRow.holds Try.pinned (OpenSpec.ofChange nlistReadsSpec)

/-- ITS FALSE NEIGHBOUR: 'it returns false'. Refute it at one input. -/
def nlistReadsWrong : ChangeSpec := { name := "nlistReads", fn := fun _ => fun
  | [d1, d2, d3, d4] => { results := [.lit (.bool false)], args := [d1, d2, d3, d4] }
  | _ => none }
def NlistReadsWrongFalsely : Prop := nlistReadsRow.holds Try.pinned (OpenSpec.ofChange nlistReadsWrong)

/-- 'clevislaw10.NlistMakes': WHATEVER THE INPUT: true; the input reads as it did. -/
def nlistMakesSpec : ChangeSpec := { name := "nlistMakes", fn := fun _ => fun
  | [d1, d2] => { results := [.lit (.bool true)], args := [d1, d2] }
  | _ => none }
def nlistMakesRow : OpenClaim := { program := "ytlmgkofbjcahaaa", sum := "c6a7e9829f082d1e6f8910ff6c6ac6ec640c92be8c126dd96e6c99b79f428890", func := "clevis/clevislaw10.NlistMakes", spec := "nlistMakes", inPlace := ["internal/bytealg.IndexByte", "internal/bytealg.IndexByteString"], unfollowed := true, recurses := true, apart := false }
def NlistMakesSaid : Prop := nlistMakesRow.holds Try.pinned (OpenSpec.ofChange nlistMakesSpec)

/-- ITS FALSE NEIGHBOUR: 'it returns false'. Refute it at one input. -/
def nlistMakesWrong : ChangeSpec := { name := "nlistMakes", fn := fun _ => fun
  | [d1, d2] => { results := [.lit (.bool false)], args := [d1, d2] }
  | _ => none }
def NlistMakesWrongFalsely : Prop := nlistMakesRow.holds Try.pinned (OpenSpec.ofChange nlistMakesWrong)

/-- 'clevislaw10.NlistKinds': WHATEVER THE INPUT: true; the input reads as it did. -/
def nlistKindsSpec : ChangeSpec := { name := "nlistKinds", fn := fun _ => fun
  | [d] => { results := [.lit (.bool true)], args := [d] }
  | _ => none }
def nlistKindsRow : OpenClaim := { program := "ytlmgkofbjcahaaa", sum := "c6a7e9829f082d1e6f8910ff6c6ac6ec640c92be8c126dd96e6c99b79f428890", func := "clevis/clevislaw10.NlistKinds", spec := "nlistKinds", inPlace := ["internal/bytealg.IndexByte"], apart := false }
def NlistKindsSaid : Prop := nlistKindsRow.holds Try.pinned (OpenSpec.ofChange nlistKindsSpec)

/-- ITS FALSE NEIGHBOUR: 'it returns false'. Refute it at one input. -/
def nlistKindsWrong : ChangeSpec := { name := "nlistKinds", fn := fun _ => fun
  | [d] => { results := [.lit (.bool false)], args := [d] }
  | _ => none }
def NlistKindsWrongFalsely : Prop := nlistKindsRow.holds Try.pinned (OpenSpec.ofChange nlistKindsWrong)

/-- 'clevislaw10.NlistMay': WHATEVER THE INPUT: true; the input reads as it did. -/
def nlistMaySpec : ChangeSpec := { name := "nlistMay", fn := fun _ => fun
  | [d] => { results := [.lit (.bool true)], args := [d] }
  | _ => none }
def nlistMayRow : OpenClaim := { program := "ytlmgkofbjcahaaa", sum := "c6a7e9829f082d1e6f8910ff6c6ac6ec640c92be8c126dd96e6c99b79f428890", func := "clevis/clevislaw10.NlistMay", spec := "nlistMay", inPlace := ["internal/bytealg.IndexByte", "internal/bytealg.IndexByteString"], apart := false }
def NlistMaySaid : Prop := nlistMayRow.holds Try.pinned (OpenSpec.ofChange nlistMaySpec)

/-- ITS FALSE NEIGHBOUR: 'it returns false'. Refute it at one input. -/
def nlistMayWrong : ChangeSpec := { name := "nlistMay", fn := fun _ => fun
  | [d] => { results := [.lit (.bool false)], args := [d] }
  | _ => none }
def NlistMayWrongFalsely : Prop := nlistMayRow.holds Try.pinned (OpenSpec.ofChange nlistMayWrong)

/-- 'clevislaw10.NlistMany': WHATEVER THE INPUT: true; the input reads as it did. -/
def nlistManySpec : ChangeSpec := { name := "nlistMany", fn := fun _ => fun
  | [d1, d2] => { results := [.lit (.bool true)], args := [d1, d2] }
  | _ => none }
def nlistManyRow : OpenClaim := { program := "ytlmgkofbjcahaaa", sum := "c6a7e9829f082d1e6f8910ff6c6ac6ec640c92be8c126dd96e6c99b79f428890", func := "clevis/clevislaw10.NlistMany", spec := "nlistMany", inPlace := ["internal/bytealg.IndexByte", "internal/bytealg.IndexByteString"], unfollowed := true, recurses := true, apart := false }
def NlistManySaid : Prop := nlistManyRow.holds Try.pinned (OpenSpec.ofChange nlistManySpec)

/-- ITS FALSE NEIGHBOUR: 'it returns false'. Refute it at one input. -/
def nlistManyWrong : ChangeSpec := { name := "nlistMany", fn := fun _ => fun
  | [d1, d2] => { results := [.lit (.bool false)], args := [d1, d2] }
  | _ => none }
def NlistManyWrongFalsely : Prop := nlistManyRow.holds Try.pinned (OpenSpec.ofChange nlistManyWrong)

/- THE SECOND FORM. 'bulk': how many values and letters a reading holds, each counted each time it is reached (what is shared counts as often as it is met; a slice's spare places count too). A statement '..UptoSaid' is the law's where the arguments, and the package variables that the reading takes, are together of bulk at most 1048576: NARROWER than '..Said'. Prove '..Said' where nothing that the law and all that it calls make is longer than what came in: it says more and counts as full. Else prove '..UptoSaid'. A law counts once. -/
mutual
def uptoBulk {H : Type} : DataW H → Nat
  | .lit (.string bytes) => bytes.length + 1
  | .lit _ => 1
  | .nil => 1
  | .ptr d => uptoBulk d + 1
  | .slice elems spare => uptoBulkAll elems + uptoBulkAll spare + 1
  | .agg parts => uptoBulkAll parts + 1
  | .iface _ d => uptoBulk d + 1
  | .map entries => uptoBulkEntries entries + 1
  | .held _ => 1
def uptoBulkAll {H : Type} : List (DataW H) → Nat
  | [] => 0
  | d :: r => uptoBulk d + uptoBulkAll r
def uptoBulkEntries {H : Type} : List (Lit × DataW H) → Nat
  | [] => 0
  | x :: r => uptoBulkEntry x + uptoBulkEntries r
def uptoBulkEntry {H : Type} : Lit × DataW H → Nat
  | (.string bytes, d) => bytes.length + uptoBulk d + 1
  | (_, d) => uptoBulk d + 1
 end
def uptoSmall : (H : Type) → List (DataW H) → Bool := fun _ ds => decide (uptoBulkAll ds ≤ 1048576)
def OpenSpec.upto (s : _root_.Go.ChangeSpec) : _root_.Go.OpenSpec := { _root_.Go.OpenSpec.ofChange s with cond := some uptoSmall }

/-- 'clevislaw10.NlistReads', WHERE WHAT IT READS IS OF BULK AT MOST 1048576: true; the input reads as it did. -/
def nlistReadsUptoRow : OpenClaim := { program := "ytlmgkofbjcahaaa", sum := "c6a7e9829f082d1e6f8910ff6c6ac6ec640c92be8c126dd96e6c99b79f428890", func := "clevis/clevislaw10.NlistReads", spec := "nlistReads", inPlace := ["internal/bytealg.IndexByte"], unfollowed := true, recurses := true, apart := false, narrowed := true }
def NlistReadsUptoSaid : Prop := nlistReadsUptoRow.holds Try.pinned (OpenSpec.upto nlistReadsSpec)

/-- 'clevislaw10.NlistMakes', WHERE WHAT IT READS IS OF BULK AT MOST 1048576: true; the input reads as it did. -/
def nlistMakesUptoRow : OpenClaim := { program := "ytlmgkofbjcahaaa", sum := "c6a7e9829f082d1e6f8910ff6c6ac6ec640c92be8c126dd96e6c99b79f428890", func := "clevis/clevislaw10.NlistMakes", spec := "nlistMakes", inPlace := ["internal/bytealg.IndexByte", "internal/bytealg.IndexByteString"], unfollowed := true, recurses := true, apart := false, narrowed := true }
def NlistMakesUptoSaid : Prop := nlistMakesUptoRow.holds Try.pinned (OpenSpec.upto nlistMakesSpec)

/-- 'clevislaw10.NlistKinds', WHERE WHAT IT READS IS OF BULK AT MOST 1048576: true; the input reads as it did. -/
def nlistKindsUptoRow : OpenClaim := { program := "ytlmgkofbjcahaaa", sum := "c6a7e9829f082d1e6f8910ff6c6ac6ec640c92be8c126dd96e6c99b79f428890", func := "clevis/clevislaw10.NlistKinds", spec := "nlistKinds", inPlace := ["internal/bytealg.IndexByte"], apart := false, narrowed := true }
def NlistKindsUptoSaid : Prop := nlistKindsUptoRow.holds Try.pinned (OpenSpec.upto nlistKindsSpec)

/-- 'clevislaw10.NlistMay', WHERE WHAT IT READS IS OF BULK AT MOST 1048576: true; the input reads as it did. -/
def nlistMayUptoRow : OpenClaim := { program := "ytlmgkofbjcahaaa", sum := "c6a7e9829f082d1e6f8910ff6c6ac6ec640c92be8c126dd96e6c99b79f428890", func := "clevis/clevislaw10.NlistMay", spec := "nlistMay", inPlace := ["internal/bytealg.IndexByte", "internal/bytealg.IndexByteString"], apart := false, narrowed := true }
def NlistMayUptoSaid : Prop := nlistMayUptoRow.holds Try.pinned (OpenSpec.upto nlistMaySpec)

/-- 'clevislaw10.NlistMany', WHERE WHAT IT READS IS OF BULK AT MOST 1048576: true; the input reads as it did. -/
def nlistManyUptoRow : OpenClaim := { program := "ytlmgkofbjcahaaa", sum := "c6a7e9829f082d1e6f8910ff6c6ac6ec640c92be8c126dd96e6c99b79f428890", func := "clevis/clevislaw10.NlistMany", spec := "nlistMany", inPlace := ["internal/bytealg.IndexByte", "internal/bytealg.IndexByteString"], unfollowed := true, recurses := true, apart := false, narrowed := true }
def NlistManyUptoSaid : Prop := nlistManyUptoRow.holds Try.pinned (OpenSpec.upto nlistManySpec)

end Rows
end Go.Proofs.Ytlmgkofbjcahaaa
