/-
  DERIVED. GIVEN WITH THE SEED: THE CARDS: each row of YtggeepimihhpjaaGreatDoorRows.lean that lists a variable, with what it lists TIED to the program's text (the seventh form; the later family's looks); each row that meets fmt, with fmt's text TOLD by the authors' own Lean function (tested against real Go, not proved from fmt's source: count such statements apart). THE CARD IS WHAT COUNTS. Prove the row's statement (the work); the ties are given (YtggeepimihhpjaaGreatDoorTie.lean); close each card by the builder's one call (the guide's Derived/Test/ToyasCard.lean, 'card_holds'). Laid BY PROGRAM, IN A SANDBOX (cutbox-door.mjs). By AI agents, Wed Nov 11 2026. No macro, syntax, notation, axiom, sorry.
-/
import Derived.Test.YtggeepimihhpjaaGreatDoorRows
import GoSem.ClaimSeven
namespace Go.Proofs.YtggeepimihhpjaaGreatDoor
namespace Rows

/-- THE TIED CARD OF 'wireloomlaw09.SyntaxMatchesReference'. -/
def syntaxMatchesReferenceCard : Claim7 := { stood := { row := syntaxMatchesReferenceRow, standIns := [], harness := (true, "f913790d60eeaa9328c517c8fbf8a15a6ece0336f40e936f05810f58710863f9"), looks := true }, kinds := [], alts := [], laidByText := true, laidKinds := [.data, .data, .data, .sentinel, .sentinel, .data], laidTests := true, laidLooks := .later }
def SyntaxMatchesReferenceCardSaid : Prop := Claim7.holds Tryz.pinned (.plain (OpenSpec.ofChange syntaxMatchesReferenceSpec)) syntaxMatchesReferenceCard

/-- THE TIED CARD OF 'wireloomlaw09.SyntaxRoundTrip'. -/
def syntaxRoundTripCard : Claim7 := { stood := { row := syntaxRoundTripRow, standIns := [], harness := (true, "f913790d60eeaa9328c517c8fbf8a15a6ece0336f40e936f05810f58710863f9"), looks := true }, kinds := [], alts := [], laidByText := true, laidKinds := [.data, .data, .data, .sentinel, .sentinel, .data], laidTests := true, laidLooks := .later }
def SyntaxRoundTripCardSaid : Prop := Claim7.holds Tryz.pinned (.plain (OpenSpec.ofChange syntaxRoundTripSpec)) syntaxRoundTripCard

/-- THE TIED CARD OF 'wireloomlaw09.SyntaxTokens'. -/
def syntaxTokensCard : Claim7 := { stood := { row := syntaxTokensRow, standIns := [], harness := (true, "f913790d60eeaa9328c517c8fbf8a15a6ece0336f40e936f05810f58710863f9"), looks := true }, kinds := [], alts := [], laidByText := true, laidKinds := [.data, .data, .data, .sentinel, .sentinel, .data], laidTests := true, laidLooks := .later }
def SyntaxTokensCardSaid : Prop := Claim7.holds Tryz.pinned (.plain (OpenSpec.ofChange syntaxTokensSpec)) syntaxTokensCard

/-- THE TIED CARD OF 'wireloomlaw09.SyntaxPrefixes'. -/
def syntaxPrefixesCard : Claim7 := { stood := { row := syntaxPrefixesRow, standIns := [], harness := (true, "f913790d60eeaa9328c517c8fbf8a15a6ece0336f40e936f05810f58710863f9"), looks := true }, kinds := [], alts := [], laidByText := true, laidKinds := [.data, .data, .data, .sentinel, .sentinel, .data], laidTests := true, laidLooks := .later }
def SyntaxPrefixesCardSaid : Prop := Claim7.holds Tryz.pinned (.plain (OpenSpec.ofChange syntaxPrefixesSpec)) syntaxPrefixesCard

/-- THE TIED CARD OF 'wireloomlaw09.SyntaxRefuses'. -/
def syntaxRefusesCard : Claim7 := { stood := { row := syntaxRefusesRow, standIns := [], harness := (true, "f913790d60eeaa9328c517c8fbf8a15a6ece0336f40e936f05810f58710863f9"), looks := true }, kinds := [], alts := [], laidByText := true, laidKinds := [.data, .data, .data, .sentinel, .sentinel, .data], laidTests := true, laidLooks := .later }
def SyntaxRefusesCardSaid : Prop := Claim7.holds Tryz.pinned (.plain (OpenSpec.ofChange syntaxRefusesSpec)) syntaxRefusesCard

/-- THE TIED CARD OF 'wireloomlaw09.SyntaxBlanks'. -/
def syntaxBlanksCard : Claim7 := { stood := { row := syntaxBlanksRow, standIns := [], harness := (true, "f913790d60eeaa9328c517c8fbf8a15a6ece0336f40e936f05810f58710863f9"), looks := true }, kinds := [], alts := [], laidByText := true, laidKinds := [.data, .data, .data, .sentinel, .sentinel, .data], laidTests := true, laidLooks := .later }
def SyntaxBlanksCardSaid : Prop := Claim7.holds Tryz.pinned (.plain (OpenSpec.ofChange syntaxBlanksSpec)) syntaxBlanksCard

/-- THE SECOND FORM's CARD OF 'wireloomlaw09.SyntaxMatchesReference'. -/
def syntaxMatchesReferenceUptoCard : Claim7 := { stood := { row := syntaxMatchesReferenceUptoRow, standIns := [], harness := (true, "f913790d60eeaa9328c517c8fbf8a15a6ece0336f40e936f05810f58710863f9"), looks := true }, kinds := [], alts := [], laidByText := true, laidKinds := [.data, .data, .data, .sentinel, .sentinel, .data], laidTests := true, laidLooks := .later }
def SyntaxMatchesReferenceUptoCardSaid : Prop := Claim7.holds Tryz.pinned (.plain (OpenSpec.upto syntaxMatchesReferenceSpec)) syntaxMatchesReferenceUptoCard

/-- THE SECOND FORM's CARD OF 'wireloomlaw09.SyntaxRoundTrip'. -/
def syntaxRoundTripUptoCard : Claim7 := { stood := { row := syntaxRoundTripUptoRow, standIns := [], harness := (true, "f913790d60eeaa9328c517c8fbf8a15a6ece0336f40e936f05810f58710863f9"), looks := true }, kinds := [], alts := [], laidByText := true, laidKinds := [.data, .data, .data, .sentinel, .sentinel, .data], laidTests := true, laidLooks := .later }
def SyntaxRoundTripUptoCardSaid : Prop := Claim7.holds Tryz.pinned (.plain (OpenSpec.upto syntaxRoundTripSpec)) syntaxRoundTripUptoCard

/-- THE SECOND FORM's CARD OF 'wireloomlaw09.SyntaxTokens'. -/
def syntaxTokensUptoCard : Claim7 := { stood := { row := syntaxTokensUptoRow, standIns := [], harness := (true, "f913790d60eeaa9328c517c8fbf8a15a6ece0336f40e936f05810f58710863f9"), looks := true }, kinds := [], alts := [], laidByText := true, laidKinds := [.data, .data, .data, .sentinel, .sentinel, .data], laidTests := true, laidLooks := .later }
def SyntaxTokensUptoCardSaid : Prop := Claim7.holds Tryz.pinned (.plain (OpenSpec.upto syntaxTokensSpec)) syntaxTokensUptoCard

/-- THE SECOND FORM's CARD OF 'wireloomlaw09.SyntaxPrefixes'. -/
def syntaxPrefixesUptoCard : Claim7 := { stood := { row := syntaxPrefixesUptoRow, standIns := [], harness := (true, "f913790d60eeaa9328c517c8fbf8a15a6ece0336f40e936f05810f58710863f9"), looks := true }, kinds := [], alts := [], laidByText := true, laidKinds := [.data, .data, .data, .sentinel, .sentinel, .data], laidTests := true, laidLooks := .later }
def SyntaxPrefixesUptoCardSaid : Prop := Claim7.holds Tryz.pinned (.plain (OpenSpec.upto syntaxPrefixesSpec)) syntaxPrefixesUptoCard

/-- THE SECOND FORM's CARD OF 'wireloomlaw09.SyntaxRefuses'. -/
def syntaxRefusesUptoCard : Claim7 := { stood := { row := syntaxRefusesUptoRow, standIns := [], harness := (true, "f913790d60eeaa9328c517c8fbf8a15a6ece0336f40e936f05810f58710863f9"), looks := true }, kinds := [], alts := [], laidByText := true, laidKinds := [.data, .data, .data, .sentinel, .sentinel, .data], laidTests := true, laidLooks := .later }
def SyntaxRefusesUptoCardSaid : Prop := Claim7.holds Tryz.pinned (.plain (OpenSpec.upto syntaxRefusesSpec)) syntaxRefusesUptoCard

/-- THE SECOND FORM's CARD OF 'wireloomlaw09.SyntaxBlanks'. -/
def syntaxBlanksUptoCard : Claim7 := { stood := { row := syntaxBlanksUptoRow, standIns := [], harness := (true, "f913790d60eeaa9328c517c8fbf8a15a6ece0336f40e936f05810f58710863f9"), looks := true }, kinds := [], alts := [], laidByText := true, laidKinds := [.data, .data, .data, .sentinel, .sentinel, .data], laidTests := true, laidLooks := .later }
def SyntaxBlanksUptoCardSaid : Prop := Claim7.holds Tryz.pinned (.plain (OpenSpec.upto syntaxBlanksSpec)) syntaxBlanksUptoCard
end Rows
end Go.Proofs.YtggeepimihhpjaaGreatDoor
