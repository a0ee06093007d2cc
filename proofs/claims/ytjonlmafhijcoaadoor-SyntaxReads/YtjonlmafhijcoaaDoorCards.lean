/-
  DERIVED. GIVEN WITH THE SEED: THE CARDS: each row of YtjonlmafhijcoaaDoorRows.lean that lists a variable, with what it lists TIED to the program's text (the seventh form; the later family's looks); each row that meets fmt, with fmt's text TOLD by the authors' own Lean function (tested against real Go, not proved from fmt's source: count such statements apart). THE CARD IS WHAT COUNTS. Prove the row's statement (the work); the ties are given (YtjonlmafhijcoaaDoorTie.lean); close each card by the builder's one call (the guide's Derived/Test/ToyasCard.lean, 'card_holds'). Laid BY PROGRAM, IN A SANDBOX (cutbox-door.mjs). By AI agents, Wed Nov 11 2026. No macro, syntax, notation, axiom, sorry.
-/
import Derived.Test.YtjonlmafhijcoaaDoorRows
import GoSem.ClaimSeven
namespace Go.Proofs.YtjonlmafhijcoaaDoor
namespace Rows

/-- THE TIED CARD OF 'eggboxlaw04.SyntaxReads'. -/
def syntaxReadsCard : Claim7 := { stood := { row := syntaxReadsRow, standIns := [], harness := (true, "e48e947476c5cceda7b2a36946ccec6e1a0e1013b2625482918b94fcb7057138"), looks := false }, kinds := [], alts := [], laidByText := true, laidKinds := [.data, .data], laidTests := true, laidLooks := .later }
def SyntaxReadsCardSaid : Prop := Claim7.holds Tryd.pinned (.plain (OpenSpec.ofChange syntaxReadsSpec)) syntaxReadsCard

/-- THE TIED CARD OF 'eggboxlaw04.SyntaxPrints'. -/
def syntaxPrintsCard : Claim7 := { stood := { row := syntaxPrintsRow, standIns := [], harness := (true, "e48e947476c5cceda7b2a36946ccec6e1a0e1013b2625482918b94fcb7057138"), looks := false }, kinds := [], alts := [], laidByText := true, laidKinds := [.data, .data], laidTests := true, laidLooks := .later }
def SyntaxPrintsCardSaid : Prop := Claim7.holds Tryd.pinned (.plain (OpenSpec.ofChange syntaxPrintsSpec)) syntaxPrintsCard

/-- THE TIED CARD OF 'eggboxlaw04.SyntaxBack'. -/
def syntaxBackCard : Claim7 := { stood := { row := syntaxBackRow, standIns := [], harness := (true, "e48e947476c5cceda7b2a36946ccec6e1a0e1013b2625482918b94fcb7057138"), looks := false }, kinds := [], alts := [], laidByText := true, laidKinds := [.data, .data], laidTests := true, laidLooks := .later }
def SyntaxBackCardSaid : Prop := Claim7.holds Tryd.pinned (.plain (OpenSpec.ofChange syntaxBackSpec)) syntaxBackCard

/-- THE TIED CARD OF 'eggboxlaw04.SyntaxRead'. -/
def syntaxReadCard : Claim7 := { stood := { row := syntaxReadRow, standIns := [], harness := (true, "e48e947476c5cceda7b2a36946ccec6e1a0e1013b2625482918b94fcb7057138"), looks := false }, kinds := [], alts := [], laidByText := true, laidKinds := [.data, .data], laidTests := true, laidLooks := .later }
def SyntaxReadCardSaid : Prop := Claim7.holds Tryd.pinned (.plain (OpenSpec.ofChange syntaxReadSpec)) syntaxReadCard

/-- THE TIED CARD OF 'eggboxlaw04.SyntaxBlanks'. -/
def syntaxBlanksCard : Claim7 := { stood := { row := syntaxBlanksRow, standIns := [], harness := (true, "e48e947476c5cceda7b2a36946ccec6e1a0e1013b2625482918b94fcb7057138"), looks := false }, kinds := [], alts := [], laidByText := true, laidKinds := [.data, .data], laidTests := true, laidLooks := .later }
def SyntaxBlanksCardSaid : Prop := Claim7.holds Tryd.pinned (.plain (OpenSpec.ofChange syntaxBlanksSpec)) syntaxBlanksCard

/-- THE TIED CARD OF 'eggboxlaw04.SyntaxMore'. -/
def syntaxMoreCard : Claim7 := { stood := { row := syntaxMoreRow, standIns := [], harness := (true, "e48e947476c5cceda7b2a36946ccec6e1a0e1013b2625482918b94fcb7057138"), looks := false }, kinds := [], alts := [], laidByText := true, laidKinds := [.data, .data], laidTests := true, laidLooks := .later }
def SyntaxMoreCardSaid : Prop := Claim7.holds Tryd.pinned (.plain (OpenSpec.ofChange syntaxMoreSpec)) syntaxMoreCard

/-- THE SECOND FORM's CARD OF 'eggboxlaw04.SyntaxReads'. -/
def syntaxReadsUptoCard : Claim7 := { stood := { row := syntaxReadsUptoRow, standIns := [], harness := (true, "e48e947476c5cceda7b2a36946ccec6e1a0e1013b2625482918b94fcb7057138"), looks := false }, kinds := [], alts := [], laidByText := true, laidKinds := [.data, .data], laidTests := true, laidLooks := .later }
def SyntaxReadsUptoCardSaid : Prop := Claim7.holds Tryd.pinned (.plain (OpenSpec.upto syntaxReadsSpec)) syntaxReadsUptoCard

/-- THE SECOND FORM's CARD OF 'eggboxlaw04.SyntaxPrints'. -/
def syntaxPrintsUptoCard : Claim7 := { stood := { row := syntaxPrintsUptoRow, standIns := [], harness := (true, "e48e947476c5cceda7b2a36946ccec6e1a0e1013b2625482918b94fcb7057138"), looks := false }, kinds := [], alts := [], laidByText := true, laidKinds := [.data, .data], laidTests := true, laidLooks := .later }
def SyntaxPrintsUptoCardSaid : Prop := Claim7.holds Tryd.pinned (.plain (OpenSpec.upto syntaxPrintsSpec)) syntaxPrintsUptoCard

/-- THE SECOND FORM's CARD OF 'eggboxlaw04.SyntaxBack'. -/
def syntaxBackUptoCard : Claim7 := { stood := { row := syntaxBackUptoRow, standIns := [], harness := (true, "e48e947476c5cceda7b2a36946ccec6e1a0e1013b2625482918b94fcb7057138"), looks := false }, kinds := [], alts := [], laidByText := true, laidKinds := [.data, .data], laidTests := true, laidLooks := .later }
def SyntaxBackUptoCardSaid : Prop := Claim7.holds Tryd.pinned (.plain (OpenSpec.upto syntaxBackSpec)) syntaxBackUptoCard

/-- THE SECOND FORM's CARD OF 'eggboxlaw04.SyntaxRead'. -/
def syntaxReadUptoCard : Claim7 := { stood := { row := syntaxReadUptoRow, standIns := [], harness := (true, "e48e947476c5cceda7b2a36946ccec6e1a0e1013b2625482918b94fcb7057138"), looks := false }, kinds := [], alts := [], laidByText := true, laidKinds := [.data, .data], laidTests := true, laidLooks := .later }
def SyntaxReadUptoCardSaid : Prop := Claim7.holds Tryd.pinned (.plain (OpenSpec.upto syntaxReadSpec)) syntaxReadUptoCard

/-- THE SECOND FORM's CARD OF 'eggboxlaw04.SyntaxBlanks'. -/
def syntaxBlanksUptoCard : Claim7 := { stood := { row := syntaxBlanksUptoRow, standIns := [], harness := (true, "e48e947476c5cceda7b2a36946ccec6e1a0e1013b2625482918b94fcb7057138"), looks := false }, kinds := [], alts := [], laidByText := true, laidKinds := [.data, .data], laidTests := true, laidLooks := .later }
def SyntaxBlanksUptoCardSaid : Prop := Claim7.holds Tryd.pinned (.plain (OpenSpec.upto syntaxBlanksSpec)) syntaxBlanksUptoCard

/-- THE SECOND FORM's CARD OF 'eggboxlaw04.SyntaxMore'. -/
def syntaxMoreUptoCard : Claim7 := { stood := { row := syntaxMoreUptoRow, standIns := [], harness := (true, "e48e947476c5cceda7b2a36946ccec6e1a0e1013b2625482918b94fcb7057138"), looks := false }, kinds := [], alts := [], laidByText := true, laidKinds := [.data, .data], laidTests := true, laidLooks := .later }
def SyntaxMoreUptoCardSaid : Prop := Claim7.holds Tryd.pinned (.plain (OpenSpec.upto syntaxMoreSpec)) syntaxMoreUptoCard
end Rows
end Go.Proofs.YtjonlmafhijcoaaDoor
