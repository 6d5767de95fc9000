/-
  DERIVED. GIVEN WITH THE SEED: THE CARDS: each row of YtbpjhdoldodlnaaDoorRows.lean that lists a variable, with what it lists TIED to the program's text (the seventh form; the later family's looks); each row that meets fmt, with fmt's text TOLD by the authors' own Lean function (tested against real Go, not proved from fmt's source: count such statements apart). THE CARD IS WHAT COUNTS. Prove the row's statement (the work); the ties are given (YtbpjhdoldodlnaaDoorTie.lean); close each card by the builder's one call (the guide's Derived/Test/ToyasCard.lean, 'card_holds'). Laid BY PROGRAM, IN A SANDBOX (cutbox-door.mjs). By AI agents, Wed Nov 11 2026. No macro, syntax, notation, axiom, sorry.
-/
import Derived.Test.YtbpjhdoldodlnaaDoorRows
import GoSem.ClaimSeven
namespace Go.Proofs.YtbpjhdoldodlnaaDoor
namespace Rows

/-- THE TIED CARD OF 'laws.FnExactTakeTicket'. -/
def fnExactTakeTicketCard : Claim7 := { stood := { row := fnExactTakeTicketRow, standIns := [], harness := (true, "5aa285d7e3118682ddf95a577a8788554796463306424d12634acf9f8fc9e78d"), looks := true }, kinds := [], alts := [], laidByText := true, laidKinds := [.handle, .sentinel, .sentinel, .sentinel], laidTests := true, laidLooks := .later }
def FnExactTakeTicketCardSaid : Prop := Claim7.holds Tryd.pinned (.plain (OpenSpec.ofChange fnExactTakeTicketSpec)) fnExactTakeTicketCard

/-- THE TIED CARD OF 'laws.FnExactPutTicket'. -/
def fnExactPutTicketCard : Claim7 := { stood := { row := fnExactPutTicketRow, standIns := [], harness := (true, "5aa285d7e3118682ddf95a577a8788554796463306424d12634acf9f8fc9e78d"), looks := true }, kinds := [], alts := [], laidByText := true, laidKinds := [.handle, .sentinel, .sentinel, .sentinel], laidTests := true, laidLooks := .later }
def FnExactPutTicketCardSaid : Prop := Claim7.holds Tryd.pinned (.plain (OpenSpec.ofChange fnExactPutTicketSpec)) fnExactPutTicketCard

/-- THE TIED CARD OF 'laws.FnExactSwapPlace'. -/
def fnExactSwapPlaceCard : Claim7 := { stood := { row := fnExactSwapPlaceRow, standIns := [], harness := (true, "5aa285d7e3118682ddf95a577a8788554796463306424d12634acf9f8fc9e78d"), looks := true }, kinds := [], alts := [], laidByText := true, laidKinds := [.handle, .sentinel, .sentinel, .sentinel, .sentinel, .sentinel], laidTests := true, laidLooks := .later }
def FnExactSwapPlaceCardSaid : Prop := Claim7.holds Tryd.pinned (.plain (OpenSpec.ofChange fnExactSwapPlaceSpec)) fnExactSwapPlaceCard

/-- THE TIED CARD OF 'laws.FnExactClose'. -/
def fnExactCloseCard : Claim7 := { stood := { row := fnExactCloseRow, standIns := [], harness := (true, "5aa285d7e3118682ddf95a577a8788554796463306424d12634acf9f8fc9e78d"), looks := true }, kinds := [], alts := [], laidByText := true, laidKinds := [.handle, .sentinel, .sentinel, .sentinel], laidTests := true, laidLooks := .later }
def FnExactCloseCardSaid : Prop := Claim7.holds Tryd.pinned (.plain (OpenSpec.ofChange fnExactCloseSpec)) fnExactCloseCard

/-- THE TIED CARD OF 'laws.FnExactRaiseTail'. -/
def fnExactRaiseTailCard : Claim7 := { stood := { row := fnExactRaiseTailRow, standIns := [], harness := (true, "5aa285d7e3118682ddf95a577a8788554796463306424d12634acf9f8fc9e78d"), looks := true }, kinds := [], alts := [], laidByText := true, laidKinds := [.handle, .sentinel, .sentinel, .sentinel, .sentinel, .sentinel], laidTests := true, laidLooks := .later }
def FnExactRaiseTailCardSaid : Prop := Claim7.holds Tryd.pinned (.plain (OpenSpec.ofChange fnExactRaiseTailSpec)) fnExactRaiseTailCard

/-- THE TIED CARD OF 'laws.FnExactAddRing'. -/
def fnExactAddRingCard : Claim7 := { stood := { row := fnExactAddRingRow, standIns := [], harness := (true, "5aa285d7e3118682ddf95a577a8788554796463306424d12634acf9f8fc9e78d"), looks := true }, kinds := [], alts := [], laidByText := true, laidKinds := [.handle, .sentinel, .sentinel, .sentinel], laidTests := true, laidLooks := .later }
def FnExactAddRingCardSaid : Prop := Claim7.holds Tryd.pinned (.plain (OpenSpec.ofChange fnExactAddRingSpec)) fnExactAddRingCard

/-- THE TIED CARD OF 'laws.FnExactLink'. -/
def fnExactLinkCard : Claim7 := { stood := { row := fnExactLinkRow, standIns := [], harness := (true, "5aa285d7e3118682ddf95a577a8788554796463306424d12634acf9f8fc9e78d"), looks := true }, kinds := [], alts := [], laidByText := true, laidKinds := [.handle, .sentinel, .sentinel, .sentinel, .sentinel], laidTests := true, laidLooks := .later }
def FnExactLinkCardSaid : Prop := Claim7.holds Tryd.pinned (.plain (OpenSpec.ofChange fnExactLinkSpec)) fnExactLinkCard

/-- THE TIED CARD OF 'laws.FnExactSwing'. -/
def fnExactSwingCard : Claim7 := { stood := { row := fnExactSwingRow, standIns := [], harness := (true, "5aa285d7e3118682ddf95a577a8788554796463306424d12634acf9f8fc9e78d"), looks := true }, kinds := [], alts := [], laidByText := true, laidKinds := [.handle, .sentinel, .sentinel, .sentinel], laidTests := true, laidLooks := .later }
def FnExactSwingCardSaid : Prop := Claim7.holds Tryd.pinned (.plain (OpenSpec.ofChange fnExactSwingSpec)) fnExactSwingCard

/-- THE SECOND FORM's CARD OF 'laws.FnExactTakeTicket'. -/
def fnExactTakeTicketUptoCard : Claim7 := { stood := { row := fnExactTakeTicketUptoRow, standIns := [], harness := (true, "5aa285d7e3118682ddf95a577a8788554796463306424d12634acf9f8fc9e78d"), looks := true }, kinds := [], alts := [], laidByText := true, laidKinds := [.handle, .sentinel, .sentinel, .sentinel], laidTests := true, laidLooks := .later }
def FnExactTakeTicketUptoCardSaid : Prop := Claim7.holds Tryd.pinned (.plain (OpenSpec.upto fnExactTakeTicketSpec)) fnExactTakeTicketUptoCard

/-- THE SECOND FORM's CARD OF 'laws.FnExactPutTicket'. -/
def fnExactPutTicketUptoCard : Claim7 := { stood := { row := fnExactPutTicketUptoRow, standIns := [], harness := (true, "5aa285d7e3118682ddf95a577a8788554796463306424d12634acf9f8fc9e78d"), looks := true }, kinds := [], alts := [], laidByText := true, laidKinds := [.handle, .sentinel, .sentinel, .sentinel], laidTests := true, laidLooks := .later }
def FnExactPutTicketUptoCardSaid : Prop := Claim7.holds Tryd.pinned (.plain (OpenSpec.upto fnExactPutTicketSpec)) fnExactPutTicketUptoCard

/-- THE SECOND FORM's CARD OF 'laws.FnExactSwapPlace'. -/
def fnExactSwapPlaceUptoCard : Claim7 := { stood := { row := fnExactSwapPlaceUptoRow, standIns := [], harness := (true, "5aa285d7e3118682ddf95a577a8788554796463306424d12634acf9f8fc9e78d"), looks := true }, kinds := [], alts := [], laidByText := true, laidKinds := [.handle, .sentinel, .sentinel, .sentinel, .sentinel, .sentinel], laidTests := true, laidLooks := .later }
def FnExactSwapPlaceUptoCardSaid : Prop := Claim7.holds Tryd.pinned (.plain (OpenSpec.upto fnExactSwapPlaceSpec)) fnExactSwapPlaceUptoCard

/-- THE SECOND FORM's CARD OF 'laws.FnExactClose'. -/
def fnExactCloseUptoCard : Claim7 := { stood := { row := fnExactCloseUptoRow, standIns := [], harness := (true, "5aa285d7e3118682ddf95a577a8788554796463306424d12634acf9f8fc9e78d"), looks := true }, kinds := [], alts := [], laidByText := true, laidKinds := [.handle, .sentinel, .sentinel, .sentinel], laidTests := true, laidLooks := .later }
def FnExactCloseUptoCardSaid : Prop := Claim7.holds Tryd.pinned (.plain (OpenSpec.upto fnExactCloseSpec)) fnExactCloseUptoCard

/-- THE SECOND FORM's CARD OF 'laws.FnExactRaiseTail'. -/
def fnExactRaiseTailUptoCard : Claim7 := { stood := { row := fnExactRaiseTailUptoRow, standIns := [], harness := (true, "5aa285d7e3118682ddf95a577a8788554796463306424d12634acf9f8fc9e78d"), looks := true }, kinds := [], alts := [], laidByText := true, laidKinds := [.handle, .sentinel, .sentinel, .sentinel, .sentinel, .sentinel], laidTests := true, laidLooks := .later }
def FnExactRaiseTailUptoCardSaid : Prop := Claim7.holds Tryd.pinned (.plain (OpenSpec.upto fnExactRaiseTailSpec)) fnExactRaiseTailUptoCard

/-- THE SECOND FORM's CARD OF 'laws.FnExactAddRing'. -/
def fnExactAddRingUptoCard : Claim7 := { stood := { row := fnExactAddRingUptoRow, standIns := [], harness := (true, "5aa285d7e3118682ddf95a577a8788554796463306424d12634acf9f8fc9e78d"), looks := true }, kinds := [], alts := [], laidByText := true, laidKinds := [.handle, .sentinel, .sentinel, .sentinel], laidTests := true, laidLooks := .later }
def FnExactAddRingUptoCardSaid : Prop := Claim7.holds Tryd.pinned (.plain (OpenSpec.upto fnExactAddRingSpec)) fnExactAddRingUptoCard

/-- THE SECOND FORM's CARD OF 'laws.FnExactLink'. -/
def fnExactLinkUptoCard : Claim7 := { stood := { row := fnExactLinkUptoRow, standIns := [], harness := (true, "5aa285d7e3118682ddf95a577a8788554796463306424d12634acf9f8fc9e78d"), looks := true }, kinds := [], alts := [], laidByText := true, laidKinds := [.handle, .sentinel, .sentinel, .sentinel, .sentinel], laidTests := true, laidLooks := .later }
def FnExactLinkUptoCardSaid : Prop := Claim7.holds Tryd.pinned (.plain (OpenSpec.upto fnExactLinkSpec)) fnExactLinkUptoCard

/-- THE SECOND FORM's CARD OF 'laws.FnExactSwing'. -/
def fnExactSwingUptoCard : Claim7 := { stood := { row := fnExactSwingUptoRow, standIns := [], harness := (true, "5aa285d7e3118682ddf95a577a8788554796463306424d12634acf9f8fc9e78d"), looks := true }, kinds := [], alts := [], laidByText := true, laidKinds := [.handle, .sentinel, .sentinel, .sentinel], laidTests := true, laidLooks := .later }
def FnExactSwingUptoCardSaid : Prop := Claim7.holds Tryd.pinned (.plain (OpenSpec.upto fnExactSwingSpec)) fnExactSwingUptoCard
end Rows
end Go.Proofs.YtbpjhdoldodlnaaDoor
