/-
  DERIVED. GIVEN WITH THE SEED: THE CARDS: each row of YtiebhlmjpnhepaaDoorRows.lean that lists a variable, with what it lists TIED to the program's text (the seventh form; the later family's looks); each row that meets fmt, with fmt's text TOLD by the authors' own Lean function (tested against real Go, not proved from fmt's source: count such statements apart). THE CARD IS WHAT COUNTS. Prove the row's statement (the work); the ties are given (YtiebhlmjpnhepaaDoorTie.lean); close each card by the builder's one call (the guide's Derived/Test/ToyasCard.lean, 'card_holds'). Laid BY PROGRAM, IN A SANDBOX (cutbox-door.mjs). By AI agents, Wed Nov 11 2026. No macro, syntax, notation, axiom, sorry.
-/
import Derived.Test.YtiebhlmjpnhepaaDoorRows
import GoSem.ClaimSeven
namespace Go.Proofs.YtiebhlmjpnhepaaDoor
namespace Rows

/-- THE TIED CARD OF 'wireloomlaw08.LexerMatchesReference'. -/
def lexerMatchesReferenceCard : Claim7 := { stood := { row := lexerMatchesReferenceRow, standIns := [], harness := (true, "d8130f4d3c397b59deba14be5bf50eb2c9ae61452da0124973ea10de9d765308"), looks := false }, kinds := [], alts := [], laidByText := true, laidKinds := [.data], laidTests := true, laidLooks := .later }
def LexerMatchesReferenceCardSaid : Prop := Claim7.holds Tryd.pinned (.plain (OpenSpec.ofChange lexerMatchesReferenceSpec)) lexerMatchesReferenceCard

/-- THE TIED CARD OF 'wireloomlaw08.LexerCovers'. -/
def lexerCoversCard : Claim7 := { stood := { row := lexerCoversRow, standIns := [], harness := (true, "d8130f4d3c397b59deba14be5bf50eb2c9ae61452da0124973ea10de9d765308"), looks := false }, kinds := [], alts := [], laidByText := true, laidKinds := [.data], laidTests := true, laidLooks := .later }
def LexerCoversCardSaid : Prop := Claim7.holds Tryd.pinned (.plain (OpenSpec.ofChange lexerCoversSpec)) lexerCoversCard

/-- THE TIED CARD OF 'wireloomlaw08.LexerJoins'. -/
def lexerJoinsCard : Claim7 := { stood := { row := lexerJoinsRow, standIns := [], harness := (true, "d8130f4d3c397b59deba14be5bf50eb2c9ae61452da0124973ea10de9d765308"), looks := false }, kinds := [], alts := [], laidByText := true, laidKinds := [.data], laidTests := true, laidLooks := .later }
def LexerJoinsCardSaid : Prop := Claim7.holds Tryd.pinned (.plain (OpenSpec.ofChange lexerJoinsSpec)) lexerJoinsCard

/-- THE TIED CARD OF 'wireloomlaw08.LexerConcatenates'. -/
def lexerConcatenatesCard : Claim7 := { stood := { row := lexerConcatenatesRow, standIns := [], harness := (true, "d8130f4d3c397b59deba14be5bf50eb2c9ae61452da0124973ea10de9d765308"), looks := false }, kinds := [], alts := [], laidByText := true, laidKinds := [.data], laidTests := true, laidLooks := .later }
def LexerConcatenatesCardSaid : Prop := Claim7.holds Tryd.pinned (.plain (OpenSpec.ofChange lexerConcatenatesSpec)) lexerConcatenatesCard

/-- THE TIED CARD OF 'wireloomlaw08.LexerKinds'. -/
def lexerKindsCard : Claim7 := { stood := { row := lexerKindsRow, standIns := [], harness := (true, "d8130f4d3c397b59deba14be5bf50eb2c9ae61452da0124973ea10de9d765308"), looks := false }, kinds := [], alts := [], laidByText := true, laidKinds := [.data], laidTests := true, laidLooks := .later }
def LexerKindsCardSaid : Prop := Claim7.holds Tryd.pinned (.plain (OpenSpec.ofChange lexerKindsSpec)) lexerKindsCard

/-- THE TIED CARD OF 'wireloomlaw08.LexerErrors'. -/
def lexerErrorsCard : Claim7 := { stood := { row := lexerErrorsRow, standIns := [], harness := (true, "d8130f4d3c397b59deba14be5bf50eb2c9ae61452da0124973ea10de9d765308"), looks := false }, kinds := [], alts := [], laidByText := true, laidKinds := [.data], laidTests := true, laidLooks := .later }
def LexerErrorsCardSaid : Prop := Claim7.holds Tryd.pinned (.plain (OpenSpec.ofChange lexerErrorsSpec)) lexerErrorsCard

/-- THE TIED CARD OF 'wireloomlaw08.LexerLines'. -/
def lexerLinesCard : Claim7 := { stood := { row := lexerLinesRow, standIns := [], harness := (true, "d8130f4d3c397b59deba14be5bf50eb2c9ae61452da0124973ea10de9d765308"), looks := false }, kinds := [], alts := [], laidByText := true, laidKinds := [.data], laidTests := true, laidLooks := .later }
def LexerLinesCardSaid : Prop := Claim7.holds Tryd.pinned (.plain (OpenSpec.ofChange lexerLinesSpec)) lexerLinesCard

/-- THE SECOND FORM's CARD OF 'wireloomlaw08.LexerMatchesReference'. -/
def lexerMatchesReferenceUptoCard : Claim7 := { stood := { row := lexerMatchesReferenceUptoRow, standIns := [], harness := (true, "d8130f4d3c397b59deba14be5bf50eb2c9ae61452da0124973ea10de9d765308"), looks := false }, kinds := [], alts := [], laidByText := true, laidKinds := [.data], laidTests := true, laidLooks := .later }
def LexerMatchesReferenceUptoCardSaid : Prop := Claim7.holds Tryd.pinned (.plain (OpenSpec.upto lexerMatchesReferenceSpec)) lexerMatchesReferenceUptoCard

/-- THE SECOND FORM's CARD OF 'wireloomlaw08.LexerCovers'. -/
def lexerCoversUptoCard : Claim7 := { stood := { row := lexerCoversUptoRow, standIns := [], harness := (true, "d8130f4d3c397b59deba14be5bf50eb2c9ae61452da0124973ea10de9d765308"), looks := false }, kinds := [], alts := [], laidByText := true, laidKinds := [.data], laidTests := true, laidLooks := .later }
def LexerCoversUptoCardSaid : Prop := Claim7.holds Tryd.pinned (.plain (OpenSpec.upto lexerCoversSpec)) lexerCoversUptoCard

/-- THE SECOND FORM's CARD OF 'wireloomlaw08.LexerJoins'. -/
def lexerJoinsUptoCard : Claim7 := { stood := { row := lexerJoinsUptoRow, standIns := [], harness := (true, "d8130f4d3c397b59deba14be5bf50eb2c9ae61452da0124973ea10de9d765308"), looks := false }, kinds := [], alts := [], laidByText := true, laidKinds := [.data], laidTests := true, laidLooks := .later }
def LexerJoinsUptoCardSaid : Prop := Claim7.holds Tryd.pinned (.plain (OpenSpec.upto lexerJoinsSpec)) lexerJoinsUptoCard

/-- THE SECOND FORM's CARD OF 'wireloomlaw08.LexerConcatenates'. -/
def lexerConcatenatesUptoCard : Claim7 := { stood := { row := lexerConcatenatesUptoRow, standIns := [], harness := (true, "d8130f4d3c397b59deba14be5bf50eb2c9ae61452da0124973ea10de9d765308"), looks := false }, kinds := [], alts := [], laidByText := true, laidKinds := [.data], laidTests := true, laidLooks := .later }
def LexerConcatenatesUptoCardSaid : Prop := Claim7.holds Tryd.pinned (.plain (OpenSpec.upto lexerConcatenatesSpec)) lexerConcatenatesUptoCard

/-- THE SECOND FORM's CARD OF 'wireloomlaw08.LexerKinds'. -/
def lexerKindsUptoCard : Claim7 := { stood := { row := lexerKindsUptoRow, standIns := [], harness := (true, "d8130f4d3c397b59deba14be5bf50eb2c9ae61452da0124973ea10de9d765308"), looks := false }, kinds := [], alts := [], laidByText := true, laidKinds := [.data], laidTests := true, laidLooks := .later }
def LexerKindsUptoCardSaid : Prop := Claim7.holds Tryd.pinned (.plain (OpenSpec.upto lexerKindsSpec)) lexerKindsUptoCard

/-- THE SECOND FORM's CARD OF 'wireloomlaw08.LexerErrors'. -/
def lexerErrorsUptoCard : Claim7 := { stood := { row := lexerErrorsUptoRow, standIns := [], harness := (true, "d8130f4d3c397b59deba14be5bf50eb2c9ae61452da0124973ea10de9d765308"), looks := false }, kinds := [], alts := [], laidByText := true, laidKinds := [.data], laidTests := true, laidLooks := .later }
def LexerErrorsUptoCardSaid : Prop := Claim7.holds Tryd.pinned (.plain (OpenSpec.upto lexerErrorsSpec)) lexerErrorsUptoCard

/-- THE SECOND FORM's CARD OF 'wireloomlaw08.LexerLines'. -/
def lexerLinesUptoCard : Claim7 := { stood := { row := lexerLinesUptoRow, standIns := [], harness := (true, "d8130f4d3c397b59deba14be5bf50eb2c9ae61452da0124973ea10de9d765308"), looks := false }, kinds := [], alts := [], laidByText := true, laidKinds := [.data], laidTests := true, laidLooks := .later }
def LexerLinesUptoCardSaid : Prop := Claim7.holds Tryd.pinned (.plain (OpenSpec.upto lexerLinesSpec)) lexerLinesUptoCard
end Rows
end Go.Proofs.YtiebhlmjpnhepaaDoor
