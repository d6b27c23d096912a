/-
  DERIVED. GIVEN WITH THE SEED: THE CARDS: each row of YtmffpnhdnaokhaaDoorRows.lean that lists a variable, with what it lists TIED to the program's text (the seventh form; the later family's looks); each row that meets fmt, with fmt's text TOLD by the authors' own Lean function (tested against real Go, not proved from fmt's source: count such statements apart). THE CARD IS WHAT COUNTS. Prove the row's statement (the work); the ties are given (YtmffpnhdnaokhaaDoorTie.lean); close each card by the builder's one call (the guide's Derived/Test/ToyasCard.lean, 'card_holds'). Laid BY PROGRAM, IN A SANDBOX (cutbox-door.mjs). By AI agents, Wed Nov 11 2026. No macro, syntax, notation, axiom, sorry.
-/
import Derived.Test.YtmffpnhdnaokhaaDoorRows
import GoSem.ClaimSeven
namespace Go.Proofs.YtmffpnhdnaokhaaDoor
namespace Rows

/-- THE TIED CARD OF 'clevislaw12.FixupReads'. -/
def fixupReadsCard : Claim7 := { stood := { row := fixupReadsRow, standIns := [], harness := (true, "300a085771c045927221cdb216c14c0a7a27f8173d3bb330c99333cfa9f226c8"), looks := true }, kinds := [], alts := [], laidByText := true, laidKinds := [.data, .data, .data, .data, .sentinel, .sentinel, .pinned], laidTests := true, laidLooks := .later }
def FixupReadsCardSaid : Prop := Claim7.holds Tryd.pinned (.plain (OpenSpec.ofChange fixupReadsSpec)) fixupReadsCard

/-- THE TIED CARD OF 'clevislaw12.FixupOrders'. -/
def fixupOrdersCard : Claim7 := { stood := { row := fixupOrdersRow, standIns := [], harness := (true, "300a085771c045927221cdb216c14c0a7a27f8173d3bb330c99333cfa9f226c8"), looks := true }, kinds := [], alts := [], laidByText := true, laidKinds := [.data, .data, .data], laidTests := true, laidLooks := .later }
def FixupOrdersCardSaid : Prop := Claim7.holds Tryd.pinned (.plain (OpenSpec.ofChange fixupOrdersSpec)) fixupOrdersCard

/-- THE TIED CARD OF 'clevislaw12.FixupSets'. -/
def fixupSetsCard : Claim7 := { stood := { row := fixupSetsRow, standIns := [], harness := (true, "300a085771c045927221cdb216c14c0a7a27f8173d3bb330c99333cfa9f226c8"), looks := true }, kinds := [], alts := [], laidByText := true, laidKinds := [.data, .data, .data], laidTests := true, laidLooks := .later }
def FixupSetsCardSaid : Prop := Claim7.holds Tryd.pinned (.plain (OpenSpec.ofChange fixupSetsSpec)) fixupSetsCard

/-- THE TIED CARD OF 'clevislaw12.FixupRuns'. -/
def fixupRunsCard : Claim7 := { stood := { row := fixupRunsRow, standIns := [], harness := (true, "300a085771c045927221cdb216c14c0a7a27f8173d3bb330c99333cfa9f226c8"), looks := true }, kinds := [], alts := [], laidByText := true, laidKinds := [.data, .data, .data], laidTests := true, laidLooks := .later }
def FixupRunsCardSaid : Prop := Claim7.holds Tryd.pinned (.plain (OpenSpec.ofChange fixupRunsSpec)) fixupRunsCard

/-- THE SECOND FORM's CARD OF 'clevislaw12.FixupReads'. -/
def fixupReadsUptoCard : Claim7 := { stood := { row := fixupReadsUptoRow, standIns := [], harness := (true, "300a085771c045927221cdb216c14c0a7a27f8173d3bb330c99333cfa9f226c8"), looks := true }, kinds := [], alts := [], laidByText := true, laidKinds := [.data, .data, .data, .data, .sentinel, .sentinel, .pinned], laidTests := true, laidLooks := .later }
def FixupReadsUptoCardSaid : Prop := Claim7.holds Tryd.pinned (.plain (OpenSpec.upto fixupReadsSpec)) fixupReadsUptoCard

/-- THE SECOND FORM's CARD OF 'clevislaw12.FixupOrders'. -/
def fixupOrdersUptoCard : Claim7 := { stood := { row := fixupOrdersUptoRow, standIns := [], harness := (true, "300a085771c045927221cdb216c14c0a7a27f8173d3bb330c99333cfa9f226c8"), looks := true }, kinds := [], alts := [], laidByText := true, laidKinds := [.data, .data, .data], laidTests := true, laidLooks := .later }
def FixupOrdersUptoCardSaid : Prop := Claim7.holds Tryd.pinned (.plain (OpenSpec.upto fixupOrdersSpec)) fixupOrdersUptoCard

/-- THE SECOND FORM's CARD OF 'clevislaw12.FixupSets'. -/
def fixupSetsUptoCard : Claim7 := { stood := { row := fixupSetsUptoRow, standIns := [], harness := (true, "300a085771c045927221cdb216c14c0a7a27f8173d3bb330c99333cfa9f226c8"), looks := true }, kinds := [], alts := [], laidByText := true, laidKinds := [.data, .data, .data], laidTests := true, laidLooks := .later }
def FixupSetsUptoCardSaid : Prop := Claim7.holds Tryd.pinned (.plain (OpenSpec.upto fixupSetsSpec)) fixupSetsUptoCard

/-- THE SECOND FORM's CARD OF 'clevislaw12.FixupRuns'. -/
def fixupRunsUptoCard : Claim7 := { stood := { row := fixupRunsUptoRow, standIns := [], harness := (true, "300a085771c045927221cdb216c14c0a7a27f8173d3bb330c99333cfa9f226c8"), looks := true }, kinds := [], alts := [], laidByText := true, laidKinds := [.data, .data, .data], laidTests := true, laidLooks := .later }
def FixupRunsUptoCardSaid : Prop := Claim7.holds Tryd.pinned (.plain (OpenSpec.upto fixupRunsSpec)) fixupRunsUptoCard
end Rows
end Go.Proofs.YtmffpnhdnaokhaaDoor
