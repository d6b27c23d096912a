/-
  No cell of these rows narrows 'for every input' (looked for: loops, veiled, ifaces, maps, wideKeys, modest, calm, conditions, laid).
  DERIVED. THE GIVEN ROWS OF THIS SEAT. 5 by the template 'for every input the law returns true; each argument reads behind the call as it read before'; 0 by the template 'total and deterministic' (their statements: YtblfighfahffkaaTotals.lean).
  GIVEN WITH THE SEED: the statements are not yours to turn. If you find one false, say at which input.
  Laid BY PROGRAM, IN A SANDBOX (cutbox-rows.mjs): the forced cells as the released guide's own fill.sh prints them over the translation cedcb08e9f454e9a… (all of the seat's roots in one cut). By AI agents, Wed Nov 11 2026. No macro, syntax, notation, axiom, sorry.
-/
import Derived.Test.YtblfighfahffkaaChecked
import GoSem.Claim
import GoSem.ClaimJoined
import GoSem.ClaimMapViews
import Derived.JoinedTies
import Derived.KernelRfl
namespace Go.Proofs.Ytblfighfahffkaa
/- THE CELL 'sum', in the pinned program and in every row, IS THE sha256 OF THE DUMP (.gsa) THAT YtblfighfahffkaaProg.lean LOADS. Nothing in Lean hashes anything: it is a label: what it is worth is what the hold of that sum in a sandbox is worth. -/
noncomputable def Try.pinned : Pinned := { name := "ytblfighfahffkaa", sum := "cedcb08e9f454e9aa8a60ad4a5f806927496f61cc873516bc4cfb6b4d4575619", checked := Try.checked }
namespace Rows
def none {H : Type} : Left H := { results := [], args := [] }

/-- 'clevislaw09.TrieReads': WHATEVER THE INPUT: true; the input reads as it did. -/
def trieReadsSpec : ChangeSpec := { name := "trieReads", fn := fun _ => fun
  | [d1, d2] => { results := [.lit (.bool true)], args := [d1, d2] }
  | _ => none }
def trieReadsRow : OpenClaim := { program := "ytblfighfahffkaa", sum := "cedcb08e9f454e9aa8a60ad4a5f806927496f61cc873516bc4cfb6b4d4575619", func := "clevis/clevislaw09.TrieReads", spec := "trieReads", inPlace := ["internal/bytealg.IndexByte", "internal/bytealg.abigen_runtime_cmpstring"], unfollowed := true, recurses := true, apart := false }
def TrieReadsSaid : Prop := trieReadsRow.holds Try.pinned (OpenSpec.ofChange trieReadsSpec)

/-- ITS FALSE NEIGHBOUR: 'it returns false'. Refute it at one input. -/
def trieReadsWrong : ChangeSpec := { name := "trieReads", fn := fun _ => fun
  | [d1, d2] => { results := [.lit (.bool false)], args := [d1, d2] }
  | _ => none }
def TrieReadsWrongFalsely : Prop := trieReadsRow.holds Try.pinned (OpenSpec.ofChange trieReadsWrong)

/-- 'clevislaw09.TrieMakes': WHATEVER THE INPUT: true; the input reads as it did. -/
def trieMakesSpec : ChangeSpec := { name := "trieMakes", fn := fun _ => fun
  | [d] => { results := [.lit (.bool true)], args := [d] }
  | _ => none }
def trieMakesRow : OpenClaim := { program := "ytblfighfahffkaa", sum := "cedcb08e9f454e9aa8a60ad4a5f806927496f61cc873516bc4cfb6b4d4575619", func := "clevis/clevislaw09.TrieMakes", spec := "trieMakes", inPlace := ["internal/bytealg.IndexByte", "internal/bytealg.abigen_runtime_cmpstring", "internal/bytealg.IndexByteString"], unfollowed := true, recurses := true, apart := false }
def TrieMakesSaid : Prop := trieMakesRow.holds Try.pinned (OpenSpec.ofChange trieMakesSpec)

/-- ITS FALSE NEIGHBOUR: 'it returns false'. Refute it at one input. -/
def trieMakesWrong : ChangeSpec := { name := "trieMakes", fn := fun _ => fun
  | [d] => { results := [.lit (.bool false)], args := [d] }
  | _ => none }
def TrieMakesWrongFalsely : Prop := trieMakesRow.holds Try.pinned (OpenSpec.ofChange trieMakesWrong)

/-- 'clevislaw09.TrieFinds': WHATEVER THE INPUT: true; the input reads as it did. -/
def trieFindsSpec : ChangeSpec := { name := "trieFinds", fn := fun _ => fun
  | [d1, d2] => { results := [.lit (.bool true)], args := [d1, d2] }
  | _ => none }
def trieFindsRow : OpenClaim := { program := "ytblfighfahffkaa", sum := "cedcb08e9f454e9aa8a60ad4a5f806927496f61cc873516bc4cfb6b4d4575619", func := "clevis/clevislaw09.TrieFinds", spec := "trieFinds", inPlace := ["internal/bytealg.IndexByte", "internal/bytealg.abigen_runtime_cmpstring"], unfollowed := true, recurses := true, apart := false }
def TrieFindsSaid : Prop := trieFindsRow.holds Try.pinned (OpenSpec.ofChange trieFindsSpec)

/-- ITS FALSE NEIGHBOUR: 'it returns false'. Refute it at one input. -/
def trieFindsWrong : ChangeSpec := { name := "trieFinds", fn := fun _ => fun
  | [d1, d2] => { results := [.lit (.bool false)], args := [d1, d2] }
  | _ => none }
def TrieFindsWrongFalsely : Prop := trieFindsRow.holds Try.pinned (OpenSpec.ofChange trieFindsWrong)

/-- 'clevislaw09.TrieMay': WHATEVER THE INPUT: true; the input reads as it did. -/
def trieMaySpec : ChangeSpec := { name := "trieMay", fn := fun _ => fun
  | [d] => { results := [.lit (.bool true)], args := [d] }
  | _ => none }
def trieMayRow : OpenClaim := { program := "ytblfighfahffkaa", sum := "cedcb08e9f454e9aa8a60ad4a5f806927496f61cc873516bc4cfb6b4d4575619", func := "clevis/clevislaw09.TrieMay", spec := "trieMay", inPlace := ["internal/bytealg.IndexByte", "internal/bytealg.abigen_runtime_cmpstring", "internal/bytealg.IndexByteString"], unfollowed := true, recurses := true, apart := false }
def TrieMaySaid : Prop := trieMayRow.holds Try.pinned (OpenSpec.ofChange trieMaySpec)

/-- ITS FALSE NEIGHBOUR: 'it returns false'. Refute it at one input. -/
def trieMayWrong : ChangeSpec := { name := "trieMay", fn := fun _ => fun
  | [d] => { results := [.lit (.bool false)], args := [d] }
  | _ => none }
def TrieMayWrongFalsely : Prop := trieMayRow.holds Try.pinned (OpenSpec.ofChange trieMayWrong)

/-- 'clevislaw09.TrieRound': WHATEVER THE INPUT: true; the input reads as it did. -/
def trieRoundSpec : ChangeSpec := { name := "trieRound", fn := fun _ => fun
  | [d1, d2] => { results := [.lit (.bool true)], args := [d1, d2] }
  | _ => none }
def trieRoundRow : OpenClaim := { program := "ytblfighfahffkaa", sum := "cedcb08e9f454e9aa8a60ad4a5f806927496f61cc873516bc4cfb6b4d4575619", func := "clevis/clevislaw09.TrieRound", spec := "trieRound", inPlace := ["internal/bytealg.IndexByte", "internal/bytealg.abigen_runtime_cmpstring"], unfollowed := true, recurses := true, apart := false }
def TrieRoundSaid : Prop := trieRoundRow.holds Try.pinned (OpenSpec.ofChange trieRoundSpec)

/-- ITS FALSE NEIGHBOUR: 'it returns false'. Refute it at one input. -/
def trieRoundWrong : ChangeSpec := { name := "trieRound", fn := fun _ => fun
  | [d1, d2] => { results := [.lit (.bool false)], args := [d1, d2] }
  | _ => none }
def TrieRoundWrongFalsely : Prop := trieRoundRow.holds Try.pinned (OpenSpec.ofChange trieRoundWrong)

/- THE SECOND FORM. 'bulk': how many values and letters a reading holds, each counted each time it is reached (what is shared counts as often as it is met; a slice's spare places count too). A statement '..UptoSaid' is the law's where the arguments, and the package variables that the reading takes, are together of bulk at most 1048576: NARROWER than '..Said'. Prove '..Said' where nothing that the law and all that it calls make is longer than what came in: it says more and counts as full. Else prove '..UptoSaid'. A law counts once. -/
mutual
def uptoBulk {H : Type} : DataW H → Nat
  | .lit (.string bytes) => bytes.length + 1
  | .lit _ => 1
  | .nil => 1
  | .ptr d => uptoBulk d + 1
  | .slice elems spare => uptoBulkAll elems + uptoBulkAll spare + 1
  | .agg parts => uptoBulkAll parts + 1
  | .iface _ d => uptoBulk d + 1
  | .map entries => uptoBulkEntries entries + 1
  | .held _ => 1
def uptoBulkAll {H : Type} : List (DataW H) → Nat
  | [] => 0
  | d :: r => uptoBulk d + uptoBulkAll r
def uptoBulkEntries {H : Type} : List (Lit × DataW H) → Nat
  | [] => 0
  | x :: r => uptoBulkEntry x + uptoBulkEntries r
def uptoBulkEntry {H : Type} : Lit × DataW H → Nat
  | (.string bytes, d) => bytes.length + uptoBulk d + 1
  | (_, d) => uptoBulk d + 1
 end
def uptoSmall : (H : Type) → List (DataW H) → Bool := fun _ ds => decide (uptoBulkAll ds ≤ 1048576)
def OpenSpec.upto (s : _root_.Go.ChangeSpec) : _root_.Go.OpenSpec := { _root_.Go.OpenSpec.ofChange s with cond := some uptoSmall }

/-- 'clevislaw09.TrieReads', WHERE WHAT IT READS IS OF BULK AT MOST 1048576: true; the input reads as it did. -/
def trieReadsUptoRow : OpenClaim := { program := "ytblfighfahffkaa", sum := "cedcb08e9f454e9aa8a60ad4a5f806927496f61cc873516bc4cfb6b4d4575619", func := "clevis/clevislaw09.TrieReads", spec := "trieReads", inPlace := ["internal/bytealg.IndexByte", "internal/bytealg.abigen_runtime_cmpstring"], unfollowed := true, recurses := true, apart := false, narrowed := true }
def TrieReadsUptoSaid : Prop := trieReadsUptoRow.holds Try.pinned (OpenSpec.upto trieReadsSpec)

/-- 'clevislaw09.TrieMakes', WHERE WHAT IT READS IS OF BULK AT MOST 1048576: true; the input reads as it did. -/
def trieMakesUptoRow : OpenClaim := { program := "ytblfighfahffkaa", sum := "cedcb08e9f454e9aa8a60ad4a5f806927496f61cc873516bc4cfb6b4d4575619", func := "clevis/clevislaw09.TrieMakes", spec := "trieMakes", inPlace := ["internal/bytealg.IndexByte", "internal/bytealg.abigen_runtime_cmpstring", "internal/bytealg.IndexByteString"], unfollowed := true, recurses := true, apart := false, narrowed := true }
def TrieMakesUptoSaid : Prop := trieMakesUptoRow.holds Try.pinned (OpenSpec.upto trieMakesSpec)

/-- 'clevislaw09.TrieFinds', WHERE WHAT IT READS IS OF BULK AT MOST 1048576: true; the input reads as it did. -/
def trieFindsUptoRow : OpenClaim := { program := "ytblfighfahffkaa", sum := "cedcb08e9f454e9aa8a60ad4a5f806927496f61cc873516bc4cfb6b4d4575619", func := "clevis/clevislaw09.TrieFinds", spec := "trieFinds", inPlace := ["internal/bytealg.IndexByte", "internal/bytealg.abigen_runtime_cmpstring"], unfollowed := true, recurses := true, apart := false, narrowed := true }
def TrieFindsUptoSaid : Prop := trieFindsUptoRow.holds Try.pinned (OpenSpec.upto trieFindsSpec)

/-- 'clevislaw09.TrieMay', WHERE WHAT IT READS IS OF BULK AT MOST 1048576: true; the input reads as it did. -/
def trieMayUptoRow : OpenClaim := { program := "ytblfighfahffkaa", sum := "cedcb08e9f454e9aa8a60ad4a5f806927496f61cc873516bc4cfb6b4d4575619", func := "clevis/clevislaw09.TrieMay", spec := "trieMay", inPlace := ["internal/bytealg.IndexByte", "internal/bytealg.abigen_runtime_cmpstring", "internal/bytealg.IndexByteString"], unfollowed := true, recurses := true, apart := false, narrowed := true }
def TrieMayUptoSaid : Prop := trieMayUptoRow.holds Try.pinned (OpenSpec.upto trieMaySpec)

/-- 'clevislaw09.TrieRound', WHERE WHAT IT READS IS OF BULK AT MOST 1048576: true; the input reads as it did. -/
def trieRoundUptoRow : OpenClaim := { program := "ytblfighfahffkaa", sum := "cedcb08e9f454e9aa8a60ad4a5f806927496f61cc873516bc4cfb6b4d4575619", func := "clevis/clevislaw09.TrieRound", spec := "trieRound", inPlace := ["internal/bytealg.IndexByte", "internal/bytealg.abigen_runtime_cmpstring"], unfollowed := true, recurses := true, apart := false, narrowed := true }
def TrieRoundUptoSaid : Prop := trieRoundUptoRow.holds Try.pinned (OpenSpec.upto trieRoundSpec)

end Rows
end Go.Proofs.Ytblfighfahffkaa
