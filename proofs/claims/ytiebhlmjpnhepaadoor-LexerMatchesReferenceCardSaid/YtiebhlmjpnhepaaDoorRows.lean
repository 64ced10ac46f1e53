/-
  NARROWER THAN 'FOR EVERY INPUT', by the rows' own cells (each row's printed sentence says how): LexerMatchesReference: laid · LexerCovers: laid · LexerJoins: laid · LexerConcatenates: laid · LexerKinds: laid · LexerErrors: laid · LexerLines: laid.
  DERIVED. THE GIVEN ROWS OF THIS SEAT. 7 by the template 'for every input the law returns true; each argument reads behind the call as it read before'; 0 by the template 'total and deterministic' (their statements: YtiebhlmjpnhepaaDoorTotals.lean).
  GIVEN WITH THE SEED: the statements are not yours to turn. If you find one false, say at which input.
  Laid BY PROGRAM, IN A SANDBOX (cutbox-rows.mjs): the forced cells as the released guide's own fill.sh prints them over the translation 9b0c81f502a8c8f6… (all of the seat's roots in one cut). By AI agents, Wed Nov 11 2026. No macro, syntax, notation, axiom, sorry.
-/
import Derived.Test.YtiebhlmjpnhepaaDoorChecked
import GoSem.Claim
import GoSem.ClaimJoined
import GoSem.ClaimMapViews
import Derived.JoinedTies
import Derived.KernelRfl
namespace Go.Proofs.YtiebhlmjpnhepaaDoor
/- THE CELL 'sum', in the pinned program and in every row, IS THE sha256 OF THE DUMP (.gsa) THAT YtiebhlmjpnhepaaDoorProg.lean LOADS. Nothing in Lean hashes anything: it is a label: what it is worth is what the hold of that sum in a sandbox is worth. -/
noncomputable def Tryd.pinned : Pinned := { name := "ytiebhlmjpnhepaadoor", sum := "9b0c81f502a8c8f69d96f220a616a589b319ba36996baf0d595a387e6e1aa079", checked := Tryd.checked }
namespace Rows
def none {H : Type} : Left H := { results := [], args := [] }

/- WHAT THE LISTED PACKAGE-LEVEL VARIABLES READ AS WHEN THE CALL BEGINS. Each datum BY PROGRAM (the guide's laid-datum.mjs) off the statement by which the dump's own 'gosem.cut.vars' lays the variable. In a bare row this is a premise. The card (YtiebhlmjpnhepaaDoorCards.lean) ties it to the program's text. -/
def laid_wireloom_lexer_signs {H : Type} : DataW H := .agg [.lit (.string [45, 62]), .lit (.string [61, 61]), .lit (.string [40]), .lit (.string [41]), .lit (.string [123]), .lit (.string [125]), .lit (.string [91]), .lit (.string [93]), .lit (.string [44]), .lit (.string [59]), .lit (.string [58]), .lit (.string [61]), .lit (.string [43]), .lit (.string [45]), .lit (.string [38]), .lit (.string [124]), .lit (.string [94]), .lit (.string [126]), .lit (.string [60]), .lit (.string [63]), .lit (.string [64]), .lit (.string [35]), .lit (.string [46])]

/-- 'wireloomlaw08.LexerMatchesReference': WHATEVER THE INPUT: true; the input reads as it did. -/
def lexerMatchesReferenceSpec : ChangeSpec := { name := "lexerMatchesReference", fn := fun _ => fun
  | [d1, d2, d3] => { results := [.lit (.bool true)], args := [d1, d2, d3] }
  | _ => none }
def lexerMatchesReferenceRow : OpenClaim := { program := "ytiebhlmjpnhepaadoor", sum := "9b0c81f502a8c8f69d96f220a616a589b319ba36996baf0d595a387e6e1aa079", func := "wireloom/wireloomlaw08.LexerMatchesReference", spec := "lexerMatchesReference", inPlace := ["internal/abi.NoEscape", "internal/bytealg.MakeNoZero", "internal/bytealg.CountString", "internal/bytealg.IndexByteString", "internal/bytealg.IndexString"], unfollowed := true, recurses := true, named := ["wireloom/lexer.signs", "internal/bytealg.MaxLen"], apart := false, laid := [("wireloom/lexer.signs", laid_wireloom_lexer_signs)] }
def LexerMatchesReferenceSaid : Prop := lexerMatchesReferenceRow.holds Tryd.pinned (OpenSpec.ofChange lexerMatchesReferenceSpec)

/-- ITS FALSE NEIGHBOUR: 'it returns false'. Refute it at one input. -/
def lexerMatchesReferenceWrong : ChangeSpec := { name := "lexerMatchesReference", fn := fun _ => fun
  | [d1, d2, d3] => { results := [.lit (.bool false)], args := [d1, d2, d3] }
  | _ => none }
def LexerMatchesReferenceWrongFalsely : Prop := lexerMatchesReferenceRow.holds Tryd.pinned (OpenSpec.ofChange lexerMatchesReferenceWrong)

/-- 'wireloomlaw08.LexerCovers': WHATEVER THE INPUT: true; the input reads as it did. -/
def lexerCoversSpec : ChangeSpec := { name := "lexerCovers", fn := fun _ => fun
  | [d1, d2] => { results := [.lit (.bool true)], args := [d1, d2] }
  | _ => none }
def lexerCoversRow : OpenClaim := { program := "ytiebhlmjpnhepaadoor", sum := "9b0c81f502a8c8f69d96f220a616a589b319ba36996baf0d595a387e6e1aa079", func := "wireloom/wireloomlaw08.LexerCovers", spec := "lexerCovers", inPlace := ["internal/abi.NoEscape", "internal/bytealg.MakeNoZero", "internal/bytealg.CountString", "internal/bytealg.IndexByteString", "internal/bytealg.IndexString"], unfollowed := true, recurses := true, named := ["wireloom/lexer.signs", "internal/bytealg.MaxLen"], apart := false, laid := [("wireloom/lexer.signs", laid_wireloom_lexer_signs)] }
def LexerCoversSaid : Prop := lexerCoversRow.holds Tryd.pinned (OpenSpec.ofChange lexerCoversSpec)

/-- ITS FALSE NEIGHBOUR: 'it returns false'. Refute it at one input. -/
def lexerCoversWrong : ChangeSpec := { name := "lexerCovers", fn := fun _ => fun
  | [d1, d2] => { results := [.lit (.bool false)], args := [d1, d2] }
  | _ => none }
def LexerCoversWrongFalsely : Prop := lexerCoversRow.holds Tryd.pinned (OpenSpec.ofChange lexerCoversWrong)

/-- 'wireloomlaw08.LexerJoins': WHATEVER THE INPUT: true; the input reads as it did. -/
def lexerJoinsSpec : ChangeSpec := { name := "lexerJoins", fn := fun _ => fun
  | [d1, d2] => { results := [.lit (.bool true)], args := [d1, d2] }
  | _ => none }
def lexerJoinsRow : OpenClaim := { program := "ytiebhlmjpnhepaadoor", sum := "9b0c81f502a8c8f69d96f220a616a589b319ba36996baf0d595a387e6e1aa079", func := "wireloom/wireloomlaw08.LexerJoins", spec := "lexerJoins", inPlace := ["internal/abi.NoEscape", "internal/bytealg.MakeNoZero", "internal/bytealg.CountString", "internal/bytealg.IndexByteString", "internal/bytealg.IndexString"], unfollowed := true, recurses := true, named := ["wireloom/lexer.signs", "internal/bytealg.MaxLen"], apart := false, laid := [("wireloom/lexer.signs", laid_wireloom_lexer_signs)] }
def LexerJoinsSaid : Prop := lexerJoinsRow.holds Tryd.pinned (OpenSpec.ofChange lexerJoinsSpec)

/-- ITS FALSE NEIGHBOUR: 'it returns false'. Refute it at one input. -/
def lexerJoinsWrong : ChangeSpec := { name := "lexerJoins", fn := fun _ => fun
  | [d1, d2] => { results := [.lit (.bool false)], args := [d1, d2] }
  | _ => none }
def LexerJoinsWrongFalsely : Prop := lexerJoinsRow.holds Tryd.pinned (OpenSpec.ofChange lexerJoinsWrong)

/-- 'wireloomlaw08.LexerConcatenates': WHATEVER THE INPUT: true; the input reads as it did. -/
def lexerConcatenatesSpec : ChangeSpec := { name := "lexerConcatenates", fn := fun _ => fun
  | [d1, d2, d3] => { results := [.lit (.bool true)], args := [d1, d2, d3] }
  | _ => none }
def lexerConcatenatesRow : OpenClaim := { program := "ytiebhlmjpnhepaadoor", sum := "9b0c81f502a8c8f69d96f220a616a589b319ba36996baf0d595a387e6e1aa079", func := "wireloom/wireloomlaw08.LexerConcatenates", spec := "lexerConcatenates", inPlace := ["internal/abi.NoEscape", "internal/bytealg.MakeNoZero", "internal/bytealg.CountString", "internal/bytealg.IndexByteString", "internal/bytealg.IndexString"], unfollowed := true, recurses := true, named := ["wireloom/lexer.signs", "internal/bytealg.MaxLen"], apart := false, laid := [("wireloom/lexer.signs", laid_wireloom_lexer_signs)] }
def LexerConcatenatesSaid : Prop := lexerConcatenatesRow.holds Tryd.pinned (OpenSpec.ofChange lexerConcatenatesSpec)

/-- ITS FALSE NEIGHBOUR: 'it returns false'. Refute it at one input. -/
def lexerConcatenatesWrong : ChangeSpec := { name := "lexerConcatenates", fn := fun _ => fun
  | [d1, d2, d3] => { results := [.lit (.bool false)], args := [d1, d2, d3] }
  | _ => none }
def LexerConcatenatesWrongFalsely : Prop := lexerConcatenatesRow.holds Tryd.pinned (OpenSpec.ofChange lexerConcatenatesWrong)

/-- 'wireloomlaw08.LexerKinds': WHATEVER THE INPUT: true; the input reads as it did. -/
def lexerKindsSpec : ChangeSpec := { name := "lexerKinds", fn := fun _ => fun
  | [d1, d2] => { results := [.lit (.bool true)], args := [d1, d2] }
  | _ => none }
def lexerKindsRow : OpenClaim := { program := "ytiebhlmjpnhepaadoor", sum := "9b0c81f502a8c8f69d96f220a616a589b319ba36996baf0d595a387e6e1aa079", func := "wireloom/wireloomlaw08.LexerKinds", spec := "lexerKinds", inPlace := ["internal/abi.NoEscape", "internal/bytealg.MakeNoZero", "internal/bytealg.CountString", "internal/bytealg.IndexByteString", "internal/bytealg.IndexString"], unfollowed := true, recurses := true, named := ["wireloom/lexer.signs", "internal/bytealg.MaxLen"], apart := false, laid := [("wireloom/lexer.signs", laid_wireloom_lexer_signs)] }
def LexerKindsSaid : Prop := lexerKindsRow.holds Tryd.pinned (OpenSpec.ofChange lexerKindsSpec)

/-- ITS FALSE NEIGHBOUR: 'it returns false'. Refute it at one input. -/
def lexerKindsWrong : ChangeSpec := { name := "lexerKinds", fn := fun _ => fun
  | [d1, d2] => { results := [.lit (.bool false)], args := [d1, d2] }
  | _ => none }
def LexerKindsWrongFalsely : Prop := lexerKindsRow.holds Tryd.pinned (OpenSpec.ofChange lexerKindsWrong)

/-- 'wireloomlaw08.LexerErrors': WHATEVER THE INPUT: true; the input reads as it did. -/
def lexerErrorsSpec : ChangeSpec := { name := "lexerErrors", fn := fun _ => fun
  | [d1, d2] => { results := [.lit (.bool true)], args := [d1, d2] }
  | _ => none }
def lexerErrorsRow : OpenClaim := { program := "ytiebhlmjpnhepaadoor", sum := "9b0c81f502a8c8f69d96f220a616a589b319ba36996baf0d595a387e6e1aa079", func := "wireloom/wireloomlaw08.LexerErrors", spec := "lexerErrors", inPlace := ["internal/abi.NoEscape", "internal/bytealg.MakeNoZero", "internal/bytealg.CountString", "internal/bytealg.IndexByteString", "internal/bytealg.IndexString"], unfollowed := true, recurses := true, named := ["wireloom/lexer.signs", "internal/bytealg.MaxLen"], apart := false, laid := [("wireloom/lexer.signs", laid_wireloom_lexer_signs)] }
def LexerErrorsSaid : Prop := lexerErrorsRow.holds Tryd.pinned (OpenSpec.ofChange lexerErrorsSpec)

/-- ITS FALSE NEIGHBOUR: 'it returns false'. Refute it at one input. -/
def lexerErrorsWrong : ChangeSpec := { name := "lexerErrors", fn := fun _ => fun
  | [d1, d2] => { results := [.lit (.bool false)], args := [d1, d2] }
  | _ => none }
def LexerErrorsWrongFalsely : Prop := lexerErrorsRow.holds Tryd.pinned (OpenSpec.ofChange lexerErrorsWrong)

/-- 'wireloomlaw08.LexerLines': WHATEVER THE INPUT: true; the input reads as it did. -/
def lexerLinesSpec : ChangeSpec := { name := "lexerLines", fn := fun _ => fun
  | [d1, d2] => { results := [.lit (.bool true)], args := [d1, d2] }
  | _ => none }
def lexerLinesRow : OpenClaim := { program := "ytiebhlmjpnhepaadoor", sum := "9b0c81f502a8c8f69d96f220a616a589b319ba36996baf0d595a387e6e1aa079", func := "wireloom/wireloomlaw08.LexerLines", spec := "lexerLines", inPlace := ["internal/abi.NoEscape", "internal/bytealg.MakeNoZero", "internal/bytealg.CountString", "internal/bytealg.IndexByteString", "internal/bytealg.IndexString"], unfollowed := true, recurses := true, named := ["wireloom/lexer.signs", "internal/bytealg.MaxLen"], apart := false, laid := [("wireloom/lexer.signs", laid_wireloom_lexer_signs)] }
def LexerLinesSaid : Prop := lexerLinesRow.holds Tryd.pinned (OpenSpec.ofChange lexerLinesSpec)

/-- ITS FALSE NEIGHBOUR: 'it returns false'. Refute it at one input. -/
def lexerLinesWrong : ChangeSpec := { name := "lexerLines", fn := fun _ => fun
  | [d1, d2] => { results := [.lit (.bool false)], args := [d1, d2] }
  | _ => none }
def LexerLinesWrongFalsely : Prop := lexerLinesRow.holds Tryd.pinned (OpenSpec.ofChange lexerLinesWrong)

/- THE SECOND FORM. 'bulk': how many values and letters a reading holds, each counted each time it is reached (what is shared counts as often as it is met; a slice's spare places count too). A statement '..UptoSaid' is the law's where the arguments, and the package variables that the reading takes, are together of bulk at most 1048576: NARROWER than '..Said'. Prove '..Said' where nothing that the law and all that it calls make is longer than what came in: it says more and counts as full. Else prove '..UptoSaid'. A law counts once. -/
mutual
def uptoBulk {H : Type} : DataW H → Nat
  | .lit (.string bytes) => bytes.length + 1
  | .lit _ => 1
  | .nil => 1
  | .ptr d => uptoBulk d + 1
  | .slice elems spare => uptoBulkAll elems + uptoBulkAll spare + 1
  | .agg parts => uptoBulkAll parts + 1
  | .iface _ d => uptoBulk d + 1
  | .map entries => uptoBulkEntries entries + 1
  | .held _ => 1
def uptoBulkAll {H : Type} : List (DataW H) → Nat
  | [] => 0
  | d :: r => uptoBulk d + uptoBulkAll r
def uptoBulkEntries {H : Type} : List (Lit × DataW H) → Nat
  | [] => 0
  | x :: r => uptoBulkEntry x + uptoBulkEntries r
def uptoBulkEntry {H : Type} : Lit × DataW H → Nat
  | (.string bytes, d) => bytes.length + uptoBulk d + 1
  | (_, d) => uptoBulk d + 1
 end
def uptoSmall : (H : Type) → List (DataW H) → Bool := fun _ ds => decide (uptoBulkAll ds ≤ 1048576)
def OpenSpec.upto (s : _root_.Go.ChangeSpec) : _root_.Go.OpenSpec := { _root_.Go.OpenSpec.ofChange s with cond := some uptoSmall }

/-- 'wireloomlaw08.LexerMatchesReference', WHERE WHAT IT READS IS OF BULK AT MOST 1048576: true; the input reads as it did. -/
def lexerMatchesReferenceUptoRow : OpenClaim := { program := "ytiebhlmjpnhepaadoor", sum := "9b0c81f502a8c8f69d96f220a616a589b319ba36996baf0d595a387e6e1aa079", func := "wireloom/wireloomlaw08.LexerMatchesReference", spec := "lexerMatchesReference", inPlace := ["internal/abi.NoEscape", "internal/bytealg.MakeNoZero", "internal/bytealg.CountString", "internal/bytealg.IndexByteString", "internal/bytealg.IndexString"], unfollowed := true, recurses := true, named := ["wireloom/lexer.signs", "internal/bytealg.MaxLen"], apart := false, laid := [("wireloom/lexer.signs", laid_wireloom_lexer_signs)], narrowed := true }
def LexerMatchesReferenceUptoSaid : Prop := lexerMatchesReferenceUptoRow.holds Tryd.pinned (OpenSpec.upto lexerMatchesReferenceSpec)

/-- 'wireloomlaw08.LexerCovers', WHERE WHAT IT READS IS OF BULK AT MOST 1048576: true; the input reads as it did. -/
def lexerCoversUptoRow : OpenClaim := { program := "ytiebhlmjpnhepaadoor", sum := "9b0c81f502a8c8f69d96f220a616a589b319ba36996baf0d595a387e6e1aa079", func := "wireloom/wireloomlaw08.LexerCovers", spec := "lexerCovers", inPlace := ["internal/abi.NoEscape", "internal/bytealg.MakeNoZero", "internal/bytealg.CountString", "internal/bytealg.IndexByteString", "internal/bytealg.IndexString"], unfollowed := true, recurses := true, named := ["wireloom/lexer.signs", "internal/bytealg.MaxLen"], apart := false, laid := [("wireloom/lexer.signs", laid_wireloom_lexer_signs)], narrowed := true }
def LexerCoversUptoSaid : Prop := lexerCoversUptoRow.holds Tryd.pinned (OpenSpec.upto lexerCoversSpec)

/-- 'wireloomlaw08.LexerJoins', WHERE WHAT IT READS IS OF BULK AT MOST 1048576: true; the input reads as it did. -/
def lexerJoinsUptoRow : OpenClaim := { program := "ytiebhlmjpnhepaadoor", sum := "9b0c81f502a8c8f69d96f220a616a589b319ba36996baf0d595a387e6e1aa079", func := "wireloom/wireloomlaw08.LexerJoins", spec := "lexerJoins", inPlace := ["internal/abi.NoEscape", "internal/bytealg.MakeNoZero", "internal/bytealg.CountString", "internal/bytealg.IndexByteString", "internal/bytealg.IndexString"], unfollowed := true, recurses := true, named := ["wireloom/lexer.signs", "internal/bytealg.MaxLen"], apart := false, laid := [("wireloom/lexer.signs", laid_wireloom_lexer_signs)], narrowed := true }
def LexerJoinsUptoSaid : Prop := lexerJoinsUptoRow.holds Tryd.pinned (OpenSpec.upto lexerJoinsSpec)

/-- 'wireloomlaw08.LexerConcatenates', WHERE WHAT IT READS IS OF BULK AT MOST 1048576: true; the input reads as it did. -/
def lexerConcatenatesUptoRow : OpenClaim := { program := "ytiebhlmjpnhepaadoor", sum := "9b0c81f502a8c8f69d96f220a616a589b319ba36996baf0d595a387e6e1aa079", func := "wireloom/wireloomlaw08.LexerConcatenates", spec := "lexerConcatenates", inPlace := ["internal/abi.NoEscape", "internal/bytealg.MakeNoZero", "internal/bytealg.CountString", "internal/bytealg.IndexByteString", "internal/bytealg.IndexString"], unfollowed := true, recurses := true, named := ["wireloom/lexer.signs", "internal/bytealg.MaxLen"], apart := false, laid := [("wireloom/lexer.signs", laid_wireloom_lexer_signs)], narrowed := true }
def LexerConcatenatesUptoSaid : Prop := lexerConcatenatesUptoRow.holds Tryd.pinned (OpenSpec.upto lexerConcatenatesSpec)

/-- 'wireloomlaw08.LexerKinds', WHERE WHAT IT READS IS OF BULK AT MOST 1048576: true; the input reads as it did. -/
def lexerKindsUptoRow : OpenClaim := { program := "ytiebhlmjpnhepaadoor", sum := "9b0c81f502a8c8f69d96f220a616a589b319ba36996baf0d595a387e6e1aa079", func := "wireloom/wireloomlaw08.LexerKinds", spec := "lexerKinds", inPlace := ["internal/abi.NoEscape", "internal/bytealg.MakeNoZero", "internal/bytealg.CountString", "internal/bytealg.IndexByteString", "internal/bytealg.IndexString"], unfollowed := true, recurses := true, named := ["wireloom/lexer.signs", "internal/bytealg.MaxLen"], apart := false, laid := [("wireloom/lexer.signs", laid_wireloom_lexer_signs)], narrowed := true }
def LexerKindsUptoSaid : Prop := lexerKindsUptoRow.holds Tryd.pinned (OpenSpec.upto lexerKindsSpec)

/-- 'wireloomlaw08.LexerErrors', WHERE WHAT IT READS IS OF BULK AT MOST 1048576: true; the input reads as it did. -/
def lexerErrorsUptoRow : OpenClaim := { program := "ytiebhlmjpnhepaadoor", sum := "9b0c81f502a8c8f69d96f220a616a589b319ba36996baf0d595a387e6e1aa079", func := "wireloom/wireloomlaw08.LexerErrors", spec := "lexerErrors", inPlace := ["internal/abi.NoEscape", "internal/bytealg.MakeNoZero", "internal/bytealg.CountString", "internal/bytealg.IndexByteString", "internal/bytealg.IndexString"], unfollowed := true, recurses := true, named := ["wireloom/lexer.signs", "internal/bytealg.MaxLen"], apart := false, laid := [("wireloom/lexer.signs", laid_wireloom_lexer_signs)], narrowed := true }
def LexerErrorsUptoSaid : Prop := lexerErrorsUptoRow.holds Tryd.pinned (OpenSpec.upto lexerErrorsSpec)

/-- 'wireloomlaw08.LexerLines', WHERE WHAT IT READS IS OF BULK AT MOST 1048576: true; the input reads as it did. -/
def lexerLinesUptoRow : OpenClaim := { program := "ytiebhlmjpnhepaadoor", sum := "9b0c81f502a8c8f69d96f220a616a589b319ba36996baf0d595a387e6e1aa079", func := "wireloom/wireloomlaw08.LexerLines", spec := "lexerLines", inPlace := ["internal/abi.NoEscape", "internal/bytealg.MakeNoZero", "internal/bytealg.CountString", "internal/bytealg.IndexByteString", "internal/bytealg.IndexString"], unfollowed := true, recurses := true, named := ["wireloom/lexer.signs", "internal/bytealg.MaxLen"], apart := false, laid := [("wireloom/lexer.signs", laid_wireloom_lexer_signs)], narrowed := true }
def LexerLinesUptoSaid : Prop := lexerLinesUptoRow.holds Tryd.pinned (OpenSpec.upto lexerLinesSpec)

end Rows
end Go.Proofs.YtiebhlmjpnhepaaDoor
