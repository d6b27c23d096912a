/-
  No cell of these rows narrows 'for every input' (looked for: loops, veiled, ifaces, maps, wideKeys, modest, calm, conditions, laid).
  DERIVED. THE GIVEN ROWS OF THIS SEAT. 3 by the template 'for every input the law returns true; each argument reads behind the call as it read before'; 0 by the template 'total and deterministic' (their statements: YtdagnkdonlfobaaGreatTotals.lean).
  GIVEN WITH THE SEED: the statements are not yours to turn. If you find one false, say at which input.
  Laid BY PROGRAM, IN A SANDBOX (cutbox-rows.mjs): the forced cells as the released guide's own fill.sh prints them over the translation 976edf6f4c39e0ac… (all of the seat's roots in one cut). By AI agents, Wed Nov 11 2026. No macro, syntax, notation, axiom, sorry.
-/
import Derived.Test.YtdagnkdonlfobaaGreatChecked
import GoSem.Claim
import GoSem.ClaimJoined
import GoSem.ClaimMapViews
import Derived.JoinedTies
import Derived.KernelRfl
namespace Go.Proofs.YtdagnkdonlfobaaGreat
/- THE CELL 'sum', in the pinned program and in every row, IS THE sha256 OF THE DUMP (.gsa) THAT YtdagnkdonlfobaaGreatProg.lean LOADS. Nothing in Lean hashes anything: it is a label: what it is worth is what the hold of that sum in a sandbox is worth. -/
noncomputable def Tryz.pinned : Pinned := { name := "ytdagnkdonlfobaagreat", sum := "976edf6f4c39e0ac18615fc4e5b45b123d0ddf8b505b8d1c62736e7891ead1ca", checked := Tryz.checked }
namespace Rows
def none {H : Type} : Left H := { results := [], args := [] }

/-- 'clevislaw08.LayLays': WHATEVER THE INPUT: true; the input reads as it did. -/
def layLaysSpec : ChangeSpec := { name := "layLays", fn := fun _ => fun
  | [d1, d2] => { results := [.lit (.bool true)], args := [d1, d2] }
  | _ => none }
def layLaysRow : OpenClaim := { program := "ytdagnkdonlfobaagreat", sum := "976edf6f4c39e0ac18615fc4e5b45b123d0ddf8b505b8d1c62736e7891ead1ca", func := "clevis/clevislaw08.LayLays", spec := "layLays", inPlace := ["internal/reflectlite.TypeOf", "math/bits.Add64", "internal/bytealg.IndexByte", "internal/bytealg.Index"], unfollowed := true, recurses := true, named := ["internal/bytealg.MaxLen"], apart := false }
def LayLaysSaid : Prop := layLaysRow.holds Tryz.pinned (OpenSpec.ofChange layLaysSpec)

/-- ITS FALSE NEIGHBOUR: 'it returns false'. Refute it at one input. -/
def layLaysWrong : ChangeSpec := { name := "layLays", fn := fun _ => fun
  | [d1, d2] => { results := [.lit (.bool false)], args := [d1, d2] }
  | _ => none }
def LayLaysWrongFalsely : Prop := layLaysRow.holds Tryz.pinned (OpenSpec.ofChange layLaysWrong)

/-- 'clevislaw08.LayMany': WHATEVER THE INPUT: true; the input reads as it did. -/
def layManySpec : ChangeSpec := { name := "layMany", fn := fun _ => fun
  | [d1, d2, d3] => { results := [.lit (.bool true)], args := [d1, d2, d3] }
  | _ => none }
def layManyRow : OpenClaim := { program := "ytdagnkdonlfobaagreat", sum := "976edf6f4c39e0ac18615fc4e5b45b123d0ddf8b505b8d1c62736e7891ead1ca", func := "clevis/clevislaw08.LayMany", spec := "layMany", inPlace := ["internal/reflectlite.TypeOf", "math/bits.Add64", "internal/bytealg.IndexByte", "internal/bytealg.Index"], unfollowed := true, recurses := true, named := ["internal/bytealg.MaxLen"], apart := false }
def LayManySaid : Prop := layManyRow.holds Tryz.pinned (OpenSpec.ofChange layManySpec)

/-- ITS FALSE NEIGHBOUR: 'it returns false'. Refute it at one input. -/
def layManyWrong : ChangeSpec := { name := "layMany", fn := fun _ => fun
  | [d1, d2, d3] => { results := [.lit (.bool false)], args := [d1, d2, d3] }
  | _ => none }
def LayManyWrongFalsely : Prop := layManyRow.holds Tryz.pinned (OpenSpec.ofChange layManyWrong)

/-- 'clevislaw08.LayNil': WHATEVER THE INPUT: true; the input reads as it did. -/
def layNilSpec : ChangeSpec := { name := "layNil", fn := fun _ => fun
  | [] => { results := [.lit (.bool true)], args := [] }
  | _ => none }
def layNilRow : OpenClaim := { program := "ytdagnkdonlfobaagreat", sum := "976edf6f4c39e0ac18615fc4e5b45b123d0ddf8b505b8d1c62736e7891ead1ca", func := "clevis/clevislaw08.LayNil", spec := "layNil", inPlace := ["internal/reflectlite.TypeOf", "math/bits.Add64", "internal/bytealg.IndexByte", "internal/bytealg.Index"], unfollowed := true, recurses := true, named := ["internal/bytealg.MaxLen"], apart := false }
def LayNilSaid : Prop := layNilRow.holds Tryz.pinned (OpenSpec.ofChange layNilSpec)

/-- ITS FALSE NEIGHBOUR: 'it returns false'. Refute it at one input. -/
def layNilWrong : ChangeSpec := { name := "layNil", fn := fun _ => fun
  | [] => { results := [.lit (.bool false)], args := [] }
  | _ => none }
def LayNilWrongFalsely : Prop := layNilRow.holds Tryz.pinned (OpenSpec.ofChange layNilWrong)

/- THE SECOND FORM. 'bulk': how many values and letters a reading holds, each counted each time it is reached (what is shared counts as often as it is met; a slice's spare places count too). A statement '..UptoSaid' is the law's where the arguments, and the package variables that the reading takes, are together of bulk at most 1048576: NARROWER than '..Said'. Prove '..Said' where nothing that the law and all that it calls make is longer than what came in: it says more and counts as full. Else prove '..UptoSaid'. A law counts once. -/
mutual
def uptoBulk {H : Type} : DataW H → Nat
  | .lit (.string bytes) => bytes.length + 1
  | .lit _ => 1
  | .nil => 1
  | .ptr d => uptoBulk d + 1
  | .slice elems spare => uptoBulkAll elems + uptoBulkAll spare + 1
  | .agg parts => uptoBulkAll parts + 1
  | .iface _ d => uptoBulk d + 1
  | .map entries => uptoBulkEntries entries + 1
  | .held _ => 1
def uptoBulkAll {H : Type} : List (DataW H) → Nat
  | [] => 0
  | d :: r => uptoBulk d + uptoBulkAll r
def uptoBulkEntries {H : Type} : List (Lit × DataW H) → Nat
  | [] => 0
  | x :: r => uptoBulkEntry x + uptoBulkEntries r
def uptoBulkEntry {H : Type} : Lit × DataW H → Nat
  | (.string bytes, d) => bytes.length + uptoBulk d + 1
  | (_, d) => uptoBulk d + 1
 end
def uptoSmall : (H : Type) → List (DataW H) → Bool := fun _ ds => decide (uptoBulkAll ds ≤ 1048576)
def OpenSpec.upto (s : _root_.Go.ChangeSpec) : _root_.Go.OpenSpec := { _root_.Go.OpenSpec.ofChange s with cond := some uptoSmall }

/-- 'clevislaw08.LayLays', WHERE WHAT IT READS IS OF BULK AT MOST 1048576: true; the input reads as it did. -/
def layLaysUptoRow : OpenClaim := { program := "ytdagnkdonlfobaagreat", sum := "976edf6f4c39e0ac18615fc4e5b45b123d0ddf8b505b8d1c62736e7891ead1ca", func := "clevis/clevislaw08.LayLays", spec := "layLays", inPlace := ["internal/reflectlite.TypeOf", "math/bits.Add64", "internal/bytealg.IndexByte", "internal/bytealg.Index"], unfollowed := true, recurses := true, named := ["internal/bytealg.MaxLen"], apart := false, narrowed := true }
def LayLaysUptoSaid : Prop := layLaysUptoRow.holds Tryz.pinned (OpenSpec.upto layLaysSpec)

/-- 'clevislaw08.LayMany', WHERE WHAT IT READS IS OF BULK AT MOST 1048576: true; the input reads as it did. -/
def layManyUptoRow : OpenClaim := { program := "ytdagnkdonlfobaagreat", sum := "976edf6f4c39e0ac18615fc4e5b45b123d0ddf8b505b8d1c62736e7891ead1ca", func := "clevis/clevislaw08.LayMany", spec := "layMany", inPlace := ["internal/reflectlite.TypeOf", "math/bits.Add64", "internal/bytealg.IndexByte", "internal/bytealg.Index"], unfollowed := true, recurses := true, named := ["internal/bytealg.MaxLen"], apart := false, narrowed := true }
def LayManyUptoSaid : Prop := layManyUptoRow.holds Tryz.pinned (OpenSpec.upto layManySpec)

/-- 'clevislaw08.LayNil', WHERE WHAT IT READS IS OF BULK AT MOST 1048576: true; the input reads as it did. -/
def layNilUptoRow : OpenClaim := { program := "ytdagnkdonlfobaagreat", sum := "976edf6f4c39e0ac18615fc4e5b45b123d0ddf8b505b8d1c62736e7891ead1ca", func := "clevis/clevislaw08.LayNil", spec := "layNil", inPlace := ["internal/reflectlite.TypeOf", "math/bits.Add64", "internal/bytealg.IndexByte", "internal/bytealg.Index"], unfollowed := true, recurses := true, named := ["internal/bytealg.MaxLen"], apart := false, narrowed := true }
def LayNilUptoSaid : Prop := layNilUptoRow.holds Tryz.pinned (OpenSpec.upto layNilSpec)

end Rows
end Go.Proofs.YtdagnkdonlfobaaGreat
