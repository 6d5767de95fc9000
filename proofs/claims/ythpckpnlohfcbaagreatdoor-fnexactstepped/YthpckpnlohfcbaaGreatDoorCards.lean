/-
  DERIVED. GIVEN WITH THE SEED: THE CARDS: each row of YthpckpnlohfcbaaGreatDoorRows.lean that lists a variable, with what it lists TIED to the program's text (the seventh form; the later family's looks); each row that meets fmt, with fmt's text TOLD by the authors' own Lean function (tested against real Go, not proved from fmt's source: count such statements apart). THE CARD IS WHAT COUNTS. Prove the row's statement (the work); the ties are given (YthpckpnlohfcbaaGreatDoorTie.lean); close each card by the builder's one call (the guide's Derived/Test/ToyasCard.lean, 'card_holds'). Laid BY PROGRAM, IN A SANDBOX (cutbox-door.mjs). By AI agents, Wed Nov 11 2026. No macro, syntax, notation, axiom, sorry.
-/
import Derived.Test.YthpckpnlohfcbaaGreatDoorRows
import GoSem.ClaimSeven
namespace Go.Proofs.YthpckpnlohfcbaaGreatDoor
namespace Rows

/-- THE TIED CARD OF 'laws.FnExactStepped'. -/
def fnExactSteppedCard : Claim7 := { stood := { row := fnExactSteppedRow, standIns := [], harness := (true, "3027b06b8d984c433bc8c8b66b339fa6ff82b4ece88b68dcbc35ca33ba28206e"), looks := true }, kinds := [], alts := [], laidByText := true, laidKinds := [.handle, .sentinel, .sentinel, .sentinel, .sentinel, .sentinel, .sentinel, .sentinel], laidTests := true, laidLooks := .later }
def FnExactSteppedCardSaid : Prop := Claim7.holds Tryz.pinned (.plain (OpenSpec.ofChange fnExactSteppedSpec)) fnExactSteppedCard

/-- THE TIED CARD OF 'laws.FnExactAlone'. -/
def fnExactAloneCard : Claim7 := { stood := { row := fnExactAloneRow, standIns := [], harness := (true, "3027b06b8d984c433bc8c8b66b339fa6ff82b4ece88b68dcbc35ca33ba28206e"), looks := true }, kinds := [], alts := [], laidByText := true, laidKinds := [.handle, .sentinel, .sentinel, .sentinel, .sentinel, .sentinel, .sentinel, .sentinel], laidTests := true, laidLooks := .later }
def FnExactAloneCardSaid : Prop := Claim7.holds Tryz.pinned (.plain (OpenSpec.ofChange fnExactAloneSpec)) fnExactAloneCard

/-- THE TIED CARD OF 'laws.FnExactPutAlone'. -/
def fnExactPutAloneCard : Claim7 := { stood := { row := fnExactPutAloneRow, standIns := [], harness := (true, "3027b06b8d984c433bc8c8b66b339fa6ff82b4ece88b68dcbc35ca33ba28206e"), looks := true }, kinds := [], alts := [], laidByText := true, laidKinds := [.handle, .sentinel, .sentinel, .sentinel, .sentinel, .sentinel, .sentinel, .sentinel], laidTests := true, laidLooks := .later }
def FnExactPutAloneCardSaid : Prop := Claim7.holds Tryz.pinned (.plain (OpenSpec.ofChange fnExactPutAloneSpec)) fnExactPutAloneCard

/-- THE TIED CARD OF 'laws.FnExactTakeAlone'. -/
def fnExactTakeAloneCard : Claim7 := { stood := { row := fnExactTakeAloneRow, standIns := [], harness := (true, "3027b06b8d984c433bc8c8b66b339fa6ff82b4ece88b68dcbc35ca33ba28206e"), looks := true }, kinds := [], alts := [], laidByText := true, laidKinds := [.handle, .sentinel, .sentinel, .sentinel, .sentinel, .sentinel, .sentinel, .sentinel], laidTests := true, laidLooks := .later }
def FnExactTakeAloneCardSaid : Prop := Claim7.holds Tryz.pinned (.plain (OpenSpec.ofChange fnExactTakeAloneSpec)) fnExactTakeAloneCard

/-- THE SECOND FORM's CARD OF 'laws.FnExactStepped'. -/
def fnExactSteppedUptoCard : Claim7 := { stood := { row := fnExactSteppedUptoRow, standIns := [], harness := (true, "3027b06b8d984c433bc8c8b66b339fa6ff82b4ece88b68dcbc35ca33ba28206e"), looks := true }, kinds := [], alts := [], laidByText := true, laidKinds := [.handle, .sentinel, .sentinel, .sentinel, .sentinel, .sentinel, .sentinel, .sentinel], laidTests := true, laidLooks := .later }
def FnExactSteppedUptoCardSaid : Prop := Claim7.holds Tryz.pinned (.plain (OpenSpec.upto fnExactSteppedSpec)) fnExactSteppedUptoCard

/-- THE SECOND FORM's CARD OF 'laws.FnExactAlone'. -/
def fnExactAloneUptoCard : Claim7 := { stood := { row := fnExactAloneUptoRow, standIns := [], harness := (true, "3027b06b8d984c433bc8c8b66b339fa6ff82b4ece88b68dcbc35ca33ba28206e"), looks := true }, kinds := [], alts := [], laidByText := true, laidKinds := [.handle, .sentinel, .sentinel, .sentinel, .sentinel, .sentinel, .sentinel, .sentinel], laidTests := true, laidLooks := .later }
def FnExactAloneUptoCardSaid : Prop := Claim7.holds Tryz.pinned (.plain (OpenSpec.upto fnExactAloneSpec)) fnExactAloneUptoCard

/-- THE SECOND FORM's CARD OF 'laws.FnExactPutAlone'. -/
def fnExactPutAloneUptoCard : Claim7 := { stood := { row := fnExactPutAloneUptoRow, standIns := [], harness := (true, "3027b06b8d984c433bc8c8b66b339fa6ff82b4ece88b68dcbc35ca33ba28206e"), looks := true }, kinds := [], alts := [], laidByText := true, laidKinds := [.handle, .sentinel, .sentinel, .sentinel, .sentinel, .sentinel, .sentinel, .sentinel], laidTests := true, laidLooks := .later }
def FnExactPutAloneUptoCardSaid : Prop := Claim7.holds Tryz.pinned (.plain (OpenSpec.upto fnExactPutAloneSpec)) fnExactPutAloneUptoCard

/-- THE SECOND FORM's CARD OF 'laws.FnExactTakeAlone'. -/
def fnExactTakeAloneUptoCard : Claim7 := { stood := { row := fnExactTakeAloneUptoRow, standIns := [], harness := (true, "3027b06b8d984c433bc8c8b66b339fa6ff82b4ece88b68dcbc35ca33ba28206e"), looks := true }, kinds := [], alts := [], laidByText := true, laidKinds := [.handle, .sentinel, .sentinel, .sentinel, .sentinel, .sentinel, .sentinel, .sentinel], laidTests := true, laidLooks := .later }
def FnExactTakeAloneUptoCardSaid : Prop := Claim7.holds Tryz.pinned (.plain (OpenSpec.upto fnExactTakeAloneSpec)) fnExactTakeAloneUptoCard
end Rows
end Go.Proofs.YthpckpnlohfcbaaGreatDoor
