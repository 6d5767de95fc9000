/-
  DERIVED. GIVEN WITH THE SEED: THE CARDS: each row of YtaieigdnfdnnpaaGreatDoorRows.lean that lists a variable, with what it lists TIED to the program's text (the seventh form; the later family's looks); each row that meets fmt, with fmt's text TOLD by the authors' own Lean function (tested against real Go, not proved from fmt's source: count such statements apart). THE CARD IS WHAT COUNTS. Prove the row's statement (the work); the ties are given (YtaieigdnfdnnpaaGreatDoorTie.lean); close each card by the builder's one call (the guide's Derived/Test/ToyasCard.lean, 'card_holds'). Laid BY PROGRAM, IN A SANDBOX (cutbox-door.mjs). By AI agents, Wed Nov 11 2026. No macro, syntax, notation, axiom, sorry.
-/
import Derived.Test.YtaieigdnfdnnpaaGreatDoorRows
import GoSem.ClaimSeven
namespace Go.Proofs.YtaieigdnfdnnpaaGreatDoor
namespace Rows

/-- THE TIED CARD OF 'laws.FnExactPutStep'. -/
def fnExactPutStepCard : Claim7 := { stood := { row := fnExactPutStepRow, standIns := [], harness := (true, "89c5fe170f6f26907615542356293b4cbb2c421beb620fe98502386d9abb32dc"), looks := true }, kinds := [], alts := [], laidByText := true, laidKinds := [.handle, .sentinel, .sentinel, .sentinel, .sentinel, .sentinel, .sentinel], laidTests := true, laidLooks := .later }
def FnExactPutStepCardSaid : Prop := Claim7.holds Tryz.pinned (.plain (OpenSpec.ofChange fnExactPutStepSpec)) fnExactPutStepCard

/-- THE TIED CARD OF 'laws.FnPutStep'. -/
def fnPutStepCard : Claim7 := { stood := { row := fnPutStepRow, standIns := [], harness := (true, "89c5fe170f6f26907615542356293b4cbb2c421beb620fe98502386d9abb32dc"), looks := true }, kinds := [], alts := [], laidByText := true, laidKinds := [.handle, .sentinel, .sentinel, .sentinel, .sentinel, .sentinel, .sentinel], laidTests := true, laidLooks := .later }
def FnPutStepCardSaid : Prop := Claim7.holds Tryz.pinned (.plain (OpenSpec.ofChange fnPutStepSpec)) fnPutStepCard

/-- THE TIED CARD OF 'laws.FnTickets'. -/
def fnTicketsCard : Claim7 := { stood := { row := fnTicketsRow, standIns := [], harness := (true, "89c5fe170f6f26907615542356293b4cbb2c421beb620fe98502386d9abb32dc"), looks := true }, kinds := [], alts := [], laidByText := true, laidKinds := [.handle, .sentinel, .sentinel, .sentinel], laidTests := true, laidLooks := .later }
def FnTicketsCardSaid : Prop := Claim7.holds Tryz.pinned (.plain (OpenSpec.ofChange fnTicketsSpec)) fnTicketsCard

/-- THE TIED CARD OF 'laws.FnSwaps'. -/
def fnSwapsCard : Claim7 := { stood := { row := fnSwapsRow, standIns := [], harness := (true, "89c5fe170f6f26907615542356293b4cbb2c421beb620fe98502386d9abb32dc"), looks := true }, kinds := [], alts := [], laidByText := true, laidKinds := [.handle, .sentinel, .sentinel, .sentinel, .sentinel, .sentinel, .sentinel], laidTests := true, laidLooks := .later }
def FnSwapsCardSaid : Prop := Claim7.holds Tryz.pinned (.plain (OpenSpec.ofChange fnSwapsSpec)) fnSwapsCard

/-- THE TIED CARD OF 'laws.FnLinks'. -/
def fnLinksCard : Claim7 := { stood := { row := fnLinksRow, standIns := [], harness := (true, "89c5fe170f6f26907615542356293b4cbb2c421beb620fe98502386d9abb32dc"), looks := true }, kinds := [], alts := [], laidByText := true, laidKinds := [.handle, .sentinel, .sentinel, .sentinel, .sentinel, .sentinel], laidTests := true, laidLooks := .later }
def FnLinksCardSaid : Prop := Claim7.holds Tryz.pinned (.plain (OpenSpec.ofChange fnLinksSpec)) fnLinksCard

/-- THE SECOND FORM's CARD OF 'laws.FnExactPutStep'. -/
def fnExactPutStepUptoCard : Claim7 := { stood := { row := fnExactPutStepUptoRow, standIns := [], harness := (true, "89c5fe170f6f26907615542356293b4cbb2c421beb620fe98502386d9abb32dc"), looks := true }, kinds := [], alts := [], laidByText := true, laidKinds := [.handle, .sentinel, .sentinel, .sentinel, .sentinel, .sentinel, .sentinel], laidTests := true, laidLooks := .later }
def FnExactPutStepUptoCardSaid : Prop := Claim7.holds Tryz.pinned (.plain (OpenSpec.upto fnExactPutStepSpec)) fnExactPutStepUptoCard

/-- THE SECOND FORM's CARD OF 'laws.FnPutStep'. -/
def fnPutStepUptoCard : Claim7 := { stood := { row := fnPutStepUptoRow, standIns := [], harness := (true, "89c5fe170f6f26907615542356293b4cbb2c421beb620fe98502386d9abb32dc"), looks := true }, kinds := [], alts := [], laidByText := true, laidKinds := [.handle, .sentinel, .sentinel, .sentinel, .sentinel, .sentinel, .sentinel], laidTests := true, laidLooks := .later }
def FnPutStepUptoCardSaid : Prop := Claim7.holds Tryz.pinned (.plain (OpenSpec.upto fnPutStepSpec)) fnPutStepUptoCard

/-- THE SECOND FORM's CARD OF 'laws.FnTickets'. -/
def fnTicketsUptoCard : Claim7 := { stood := { row := fnTicketsUptoRow, standIns := [], harness := (true, "89c5fe170f6f26907615542356293b4cbb2c421beb620fe98502386d9abb32dc"), looks := true }, kinds := [], alts := [], laidByText := true, laidKinds := [.handle, .sentinel, .sentinel, .sentinel], laidTests := true, laidLooks := .later }
def FnTicketsUptoCardSaid : Prop := Claim7.holds Tryz.pinned (.plain (OpenSpec.upto fnTicketsSpec)) fnTicketsUptoCard

/-- THE SECOND FORM's CARD OF 'laws.FnSwaps'. -/
def fnSwapsUptoCard : Claim7 := { stood := { row := fnSwapsUptoRow, standIns := [], harness := (true, "89c5fe170f6f26907615542356293b4cbb2c421beb620fe98502386d9abb32dc"), looks := true }, kinds := [], alts := [], laidByText := true, laidKinds := [.handle, .sentinel, .sentinel, .sentinel, .sentinel, .sentinel, .sentinel], laidTests := true, laidLooks := .later }
def FnSwapsUptoCardSaid : Prop := Claim7.holds Tryz.pinned (.plain (OpenSpec.upto fnSwapsSpec)) fnSwapsUptoCard

/-- THE SECOND FORM's CARD OF 'laws.FnLinks'. -/
def fnLinksUptoCard : Claim7 := { stood := { row := fnLinksUptoRow, standIns := [], harness := (true, "89c5fe170f6f26907615542356293b4cbb2c421beb620fe98502386d9abb32dc"), looks := true }, kinds := [], alts := [], laidByText := true, laidKinds := [.handle, .sentinel, .sentinel, .sentinel, .sentinel, .sentinel], laidTests := true, laidLooks := .later }
def FnLinksUptoCardSaid : Prop := Claim7.holds Tryz.pinned (.plain (OpenSpec.upto fnLinksSpec)) fnLinksUptoCard
end Rows
end Go.Proofs.YtaieigdnfdnnpaaGreatDoor
