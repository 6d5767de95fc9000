/-
  DERIVED. GIVEN WITH THE SEED: THE CARDS: each row of YtlpcpaehkgaffaaGreatDoorRows.lean that lists a variable, with what it lists TIED to the program's text (the seventh form; the later family's looks); each row that meets fmt, with fmt's text TOLD by the authors' own Lean function (tested against real Go, not proved from fmt's source: count such statements apart). THE CARD IS WHAT COUNTS. Prove the row's statement (the work); the ties are given (YtlpcpaehkgaffaaGreatDoorTie.lean); close each card by the builder's one call (the guide's Derived/Test/ToyasCard.lean, 'card_holds'). Laid BY PROGRAM, IN A SANDBOX (cutbox-door.mjs). By AI agents, Wed Nov 11 2026. No macro, syntax, notation, axiom, sorry.
-/
import Derived.Test.YtlpcpaehkgaffaaGreatDoorRows
import GoSem.ClaimSeven
namespace Go.Proofs.YtlpcpaehkgaffaaGreatDoor
namespace Rows

/-- THE TIED CARD OF 'laws.FnExactPutStep'. -/
def fnExactPutStepCard : Claim7 := { stood := { row := fnExactPutStepRow, standIns := [], harness := (true, "7f946ca00cd96676c222431f4dde0013d934ea2e255841e5b668998111a2310d"), looks := true }, kinds := [], alts := [], laidByText := true, laidKinds := [.handle, .sentinel, .sentinel, .sentinel, .sentinel, .sentinel, .sentinel], laidTests := true, laidLooks := .later }
def FnExactPutStepCardSaid : Prop := Claim7.holds Tryz.pinned (.plain (OpenSpec.ofChange fnExactPutStepSpec)) fnExactPutStepCard

/-- THE TIED CARD OF 'laws.FnExactTakeStep'. -/
def fnExactTakeStepCard : Claim7 := { stood := { row := fnExactTakeStepRow, standIns := [], harness := (true, "7f946ca00cd96676c222431f4dde0013d934ea2e255841e5b668998111a2310d"), looks := true }, kinds := [], alts := [], laidByText := true, laidKinds := [.handle, .sentinel, .sentinel, .sentinel, .sentinel, .sentinel, .sentinel], laidTests := true, laidLooks := .later }
def FnExactTakeStepCardSaid : Prop := Claim7.holds Tryz.pinned (.plain (OpenSpec.ofChange fnExactTakeStepSpec)) fnExactTakeStepCard

/-- THE SECOND FORM's CARD OF 'laws.FnExactPutStep'. -/
def fnExactPutStepUptoCard : Claim7 := { stood := { row := fnExactPutStepUptoRow, standIns := [], harness := (true, "7f946ca00cd96676c222431f4dde0013d934ea2e255841e5b668998111a2310d"), looks := true }, kinds := [], alts := [], laidByText := true, laidKinds := [.handle, .sentinel, .sentinel, .sentinel, .sentinel, .sentinel, .sentinel], laidTests := true, laidLooks := .later }
def FnExactPutStepUptoCardSaid : Prop := Claim7.holds Tryz.pinned (.plain (OpenSpec.upto fnExactPutStepSpec)) fnExactPutStepUptoCard

/-- THE SECOND FORM's CARD OF 'laws.FnExactTakeStep'. -/
def fnExactTakeStepUptoCard : Claim7 := { stood := { row := fnExactTakeStepUptoRow, standIns := [], harness := (true, "7f946ca00cd96676c222431f4dde0013d934ea2e255841e5b668998111a2310d"), looks := true }, kinds := [], alts := [], laidByText := true, laidKinds := [.handle, .sentinel, .sentinel, .sentinel, .sentinel, .sentinel, .sentinel], laidTests := true, laidLooks := .later }
def FnExactTakeStepUptoCardSaid : Prop := Claim7.holds Tryz.pinned (.plain (OpenSpec.upto fnExactTakeStepSpec)) fnExactTakeStepUptoCard
end Rows
end Go.Proofs.YtlpcpaehkgaffaaGreatDoor
