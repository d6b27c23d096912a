/-
  No cell of these rows narrows 'for every input' (looked for: loops, veiled, ifaces, maps, wideKeys, modest, calm, conditions, laid).
  DERIVED. THE GIVEN ROWS OF THIS SEAT. 5 by the template 'for every input the law returns true; each argument reads behind the call as it read before'; 0 by the template 'total and deterministic' (their statements: YtdjakaiadggemaaTotals.lean).
  GIVEN WITH THE SEED: the statements are not yours to turn. If you find one false, say at which input.
  Laid BY PROGRAM, IN A SANDBOX (cutbox-rows.mjs): the forced cells as the released guide's own fill.sh prints them over the translation e2909497756bb0b8… (all of the seat's roots in one cut). By AI agents, Wed Nov 11 2026. No macro, syntax, notation, axiom, sorry.
-/
import Derived.Test.YtdjakaiadggemaaChecked
import GoSem.Claim
import GoSem.ClaimJoined
import GoSem.ClaimMapViews
import Derived.JoinedTies
import Derived.KernelRfl
namespace Go.Proofs.Ytdjakaiadggemaa
/- THE CELL 'sum', in the pinned program and in every row, IS THE sha256 OF THE DUMP (.gsa) THAT YtdjakaiadggemaaProg.lean LOADS. Nothing in Lean hashes anything: it is a label: what it is worth is what the hold of that sum in a sandbox is worth. -/
noncomputable def Try.pinned : Pinned := { name := "ytdjakaiadggemaa", sum := "e2909497756bb0b8eb2612be62336f07a6b70a1912a3e91723c7fe63730fc80e", checked := Try.checked }
namespace Rows
def none {H : Type} : Left H := { results := [], args := [] }

/-- 'clevislaw03.FatReads': WHATEVER THE INPUT: true; the input reads as it did. -/
def fatReadsSpec : ChangeSpec := { name := "fatReads", fn := fun _ => fun
  | [d1, d2] => { results := [.lit (.bool true)], args := [d1, d2] }
  | _ => none }
def fatReadsRow : OpenClaim := { program := "ytdjakaiadggemaa", sum := "e2909497756bb0b8eb2612be62336f07a6b70a1912a3e91723c7fe63730fc80e", func := "clevis/clevislaw03.FatReads", spec := "fatReads", inPlace := ["math/bits.Add64"], unfollowed := true, recurses := true, apart := false }
def FatReadsSaid : Prop := fatReadsRow.holds Try.pinned (OpenSpec.ofChange fatReadsSpec)

/-- ITS FALSE NEIGHBOUR: 'it returns false'. Refute it at one input. -/
def fatReadsWrong : ChangeSpec := { name := "fatReads", fn := fun _ => fun
  | [d1, d2] => { results := [.lit (.bool false)], args := [d1, d2] }
  | _ => none }
def FatReadsWrongFalsely : Prop := fatReadsRow.holds Try.pinned (OpenSpec.ofChange fatReadsWrong)

/-- 'clevislaw03.FatPicks': WHATEVER THE INPUT: true; the input reads as it did. -/
def fatPicksSpec : ChangeSpec := { name := "fatPicks", fn := fun _ => fun
  | [d1, d2] => { results := [.lit (.bool true)], args := [d1, d2] }
  | _ => none }
def fatPicksRow : OpenClaim := { program := "ytdjakaiadggemaa", sum := "e2909497756bb0b8eb2612be62336f07a6b70a1912a3e91723c7fe63730fc80e", func := "clevis/clevislaw03.FatPicks", spec := "fatPicks", inPlace := ["math/bits.Add64"], unfollowed := true, recurses := true, apart := false }
def FatPicksSaid : Prop := fatPicksRow.holds Try.pinned (OpenSpec.ofChange fatPicksSpec)

/-- ITS FALSE NEIGHBOUR: 'it returns false'. Refute it at one input. -/
def fatPicksWrong : ChangeSpec := { name := "fatPicks", fn := fun _ => fun
  | [d1, d2] => { results := [.lit (.bool false)], args := [d1, d2] }
  | _ => none }
def FatPicksWrongFalsely : Prop := fatPicksRow.holds Try.pinned (OpenSpec.ofChange fatPicksWrong)

/-- 'clevislaw03.FatMakes': WHATEVER THE INPUT: true; the input reads as it did. -/
def fatMakesSpec : ChangeSpec := { name := "fatMakes", fn := fun _ => fun
  | [d1, d2, d3] => { results := [.lit (.bool true)], args := [d1, d2, d3] }
  | _ => none }
def fatMakesRow : OpenClaim := { program := "ytdjakaiadggemaa", sum := "e2909497756bb0b8eb2612be62336f07a6b70a1912a3e91723c7fe63730fc80e", func := "clevis/clevislaw03.FatMakes", spec := "fatMakes", inPlace := ["math/bits.Add64"], unfollowed := true, recurses := true, apart := false }
def FatMakesSaid : Prop := fatMakesRow.holds Try.pinned (OpenSpec.ofChange fatMakesSpec)

/-- ITS FALSE NEIGHBOUR: 'it returns false'. Refute it at one input. -/
def fatMakesWrong : ChangeSpec := { name := "fatMakes", fn := fun _ => fun
  | [d1, d2, d3] => { results := [.lit (.bool false)], args := [d1, d2, d3] }
  | _ => none }
def FatMakesWrongFalsely : Prop := fatMakesRow.holds Try.pinned (OpenSpec.ofChange fatMakesWrong)

/-- 'clevislaw03.FatLimits': WHATEVER THE INPUT: true; the input reads as it did. -/
def fatLimitsSpec : ChangeSpec := { name := "fatLimits", fn := fun _ => fun
  | [d1, d2, d3] => { results := [.lit (.bool true)], args := [d1, d2, d3] }
  | _ => none }
def fatLimitsRow : OpenClaim := { program := "ytdjakaiadggemaa", sum := "e2909497756bb0b8eb2612be62336f07a6b70a1912a3e91723c7fe63730fc80e", func := "clevis/clevislaw03.FatLimits", spec := "fatLimits", inPlace := ["math/bits.Add64"], unfollowed := true, recurses := true, apart := false }
def FatLimitsSaid : Prop := fatLimitsRow.holds Try.pinned (OpenSpec.ofChange fatLimitsSpec)

/-- ITS FALSE NEIGHBOUR: 'it returns false'. Refute it at one input. -/
def fatLimitsWrong : ChangeSpec := { name := "fatLimits", fn := fun _ => fun
  | [d1, d2, d3] => { results := [.lit (.bool false)], args := [d1, d2, d3] }
  | _ => none }
def FatLimitsWrongFalsely : Prop := fatLimitsRow.holds Try.pinned (OpenSpec.ofChange fatLimitsWrong)

/-- 'clevislaw03.FatShort': WHATEVER THE INPUT: true; the input reads as it did. -/
def fatShortSpec : ChangeSpec := { name := "fatShort", fn := fun _ => fun
  | [d1, d2, d3, d4] => { results := [.lit (.bool true)], args := [d1, d2, d3, d4] }
  | _ => none }
def fatShortRow : OpenClaim := { program := "ytdjakaiadggemaa", sum := "e2909497756bb0b8eb2612be62336f07a6b70a1912a3e91723c7fe63730fc80e", func := "clevis/clevislaw03.FatShort", spec := "fatShort", inPlace := ["math/bits.Add64"], unfollowed := true, recurses := true, apart := false }
def FatShortSaid : Prop := fatShortRow.holds Try.pinned (OpenSpec.ofChange fatShortSpec)

/-- ITS FALSE NEIGHBOUR: 'it returns false'. Refute it at one input. -/
def fatShortWrong : ChangeSpec := { name := "fatShort", fn := fun _ => fun
  | [d1, d2, d3, d4] => { results := [.lit (.bool false)], args := [d1, d2, d3, d4] }
  | _ => none }
def FatShortWrongFalsely : Prop := fatShortRow.holds Try.pinned (OpenSpec.ofChange fatShortWrong)

/- THE SECOND FORM. 'bulk': how many values and letters a reading holds, each counted each time it is reached (what is shared counts as often as it is met; a slice's spare places count too). A statement '..UptoSaid' is the law's where the arguments, and the package variables that the reading takes, are together of bulk at most 1048576: NARROWER than '..Said'. Prove '..Said' where nothing that the law and all that it calls make is longer than what came in: it says more and counts as full. Else prove '..UptoSaid'. A law counts once. -/
mutual
def uptoBulk {H : Type} : DataW H → Nat
  | .lit (.string bytes) => bytes.length + 1
  | .lit _ => 1
  | .nil => 1
  | .ptr d => uptoBulk d + 1
  | .slice elems spare => uptoBulkAll elems + uptoBulkAll spare + 1
  | .agg parts => uptoBulkAll parts + 1
  | .iface _ d => uptoBulk d + 1
  | .map entries => uptoBulkEntries entries + 1
  | .held _ => 1
def uptoBulkAll {H : Type} : List (DataW H) → Nat
  | [] => 0
  | d :: r => uptoBulk d + uptoBulkAll r
def uptoBulkEntries {H : Type} : List (Lit × DataW H) → Nat
  | [] => 0
  | x :: r => uptoBulkEntry x + uptoBulkEntries r
def uptoBulkEntry {H : Type} : Lit × DataW H → Nat
  | (.string bytes, d) => bytes.length + uptoBulk d + 1
  | (_, d) => uptoBulk d + 1
 end
def uptoSmall : (H : Type) → List (DataW H) → Bool := fun _ ds => decide (uptoBulkAll ds ≤ 1048576)
def OpenSpec.upto (s : _root_.Go.ChangeSpec) : _root_.Go.OpenSpec := { _root_.Go.OpenSpec.ofChange s with cond := some uptoSmall }

/-- 'clevislaw03.FatReads', WHERE WHAT IT READS IS OF BULK AT MOST 1048576: true; the input reads as it did. -/
def fatReadsUptoRow : OpenClaim := { program := "ytdjakaiadggemaa", sum := "e2909497756bb0b8eb2612be62336f07a6b70a1912a3e91723c7fe63730fc80e", func := "clevis/clevislaw03.FatReads", spec := "fatReads", inPlace := ["math/bits.Add64"], unfollowed := true, recurses := true, apart := false, narrowed := true }
def FatReadsUptoSaid : Prop := fatReadsUptoRow.holds Try.pinned (OpenSpec.upto fatReadsSpec)

/-- 'clevislaw03.FatPicks', WHERE WHAT IT READS IS OF BULK AT MOST 1048576: true; the input reads as it did. -/
def fatPicksUptoRow : OpenClaim := { program := "ytdjakaiadggemaa", sum := "e2909497756bb0b8eb2612be62336f07a6b70a1912a3e91723c7fe63730fc80e", func := "clevis/clevislaw03.FatPicks", spec := "fatPicks", inPlace := ["math/bits.Add64"], unfollowed := true, recurses := true, apart := false, narrowed := true }
def FatPicksUptoSaid : Prop := fatPicksUptoRow.holds Try.pinned (OpenSpec.upto fatPicksSpec)

/-- 'clevislaw03.FatMakes', WHERE WHAT IT READS IS OF BULK AT MOST 1048576: true; the input reads as it did. -/
def fatMakesUptoRow : OpenClaim := { program := "ytdjakaiadggemaa", sum := "e2909497756bb0b8eb2612be62336f07a6b70a1912a3e91723c7fe63730fc80e", func := "clevis/clevislaw03.FatMakes", spec := "fatMakes", inPlace := ["math/bits.Add64"], unfollowed := true, recurses := true, apart := false, narrowed := true }
def FatMakesUptoSaid : Prop := fatMakesUptoRow.holds Try.pinned (OpenSpec.upto fatMakesSpec)

/-- 'clevislaw03.FatLimits', WHERE WHAT IT READS IS OF BULK AT MOST 1048576: true; the input reads as it did. -/
def fatLimitsUptoRow : OpenClaim := { program := "ytdjakaiadggemaa", sum := "e2909497756bb0b8eb2612be62336f07a6b70a1912a3e91723c7fe63730fc80e", func := "clevis/clevislaw03.FatLimits", spec := "fatLimits", inPlace := ["math/bits.Add64"], unfollowed := true, recurses := true, apart := false, narrowed := true }
def FatLimitsUptoSaid : Prop := fatLimitsUptoRow.holds Try.pinned (OpenSpec.upto fatLimitsSpec)

/-- 'clevislaw03.FatShort', WHERE WHAT IT READS IS OF BULK AT MOST 1048576: true; the input reads as it did. -/
def fatShortUptoRow : OpenClaim := { program := "ytdjakaiadggemaa", sum := "e2909497756bb0b8eb2612be62336f07a6b70a1912a3e91723c7fe63730fc80e", func := "clevis/clevislaw03.FatShort", spec := "fatShort", inPlace := ["math/bits.Add64"], unfollowed := true, recurses := true, apart := false, narrowed := true }
def FatShortUptoSaid : Prop := fatShortUptoRow.holds Try.pinned (OpenSpec.upto fatShortSpec)

end Rows
end Go.Proofs.Ytdjakaiadggemaa
