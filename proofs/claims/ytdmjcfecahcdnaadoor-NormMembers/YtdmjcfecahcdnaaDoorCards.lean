/-
  DERIVED. GIVEN WITH THE SEED: THE CARDS: each row of YtdmjcfecahcdnaaDoorRows.lean that lists a variable, with what it lists TIED to the program's text (the seventh form; the later family's looks); each row that meets fmt, with fmt's text TOLD by the authors' own Lean function (tested against real Go, not proved from fmt's source: count such statements apart). THE CARD IS WHAT COUNTS. Prove the row's statement (the work); the ties are given (YtdmjcfecahcdnaaDoorTie.lean); close each card by the builder's one call (the guide's Derived/Test/ToyasCard.lean, 'card_holds'). Laid BY PROGRAM, IN A SANDBOX (cutbox-door.mjs). By AI agents, Wed Nov 11 2026. No macro, syntax, notation, axiom, sorry.
-/
import Derived.Test.YtdmjcfecahcdnaaDoorRows
import GoSem.ClaimSeven
namespace Go.Proofs.YtdmjcfecahcdnaaDoor
namespace Rows

/-- THE TIED CARD OF 'eggboxlaw05.NormForms'. -/
def normFormsCard : Claim7 := { stood := { row := normFormsRow, standIns := [], harness := (true, "b414daad54b9d0b08494abd64e408f62d117ebfe8175e1cfde69e226fd2cc268"), looks := false }, kinds := [], alts := [], laidByText := true, laidKinds := [.data], laidTests := true, laidLooks := .later }
def NormFormsCardSaid : Prop := Claim7.holds Tryd.pinned (.plain (OpenSpec.ofChange normFormsSpec)) normFormsCard

/-- THE TIED CARD OF 'eggboxlaw05.NormJoins'. -/
def normJoinsCard : Claim7 := { stood := { row := normJoinsRow, standIns := [], harness := (true, "b414daad54b9d0b08494abd64e408f62d117ebfe8175e1cfde69e226fd2cc268"), looks := false }, kinds := [], alts := [], laidByText := true, laidKinds := [.data], laidTests := true, laidLooks := .later }
def NormJoinsCardSaid : Prop := Claim7.holds Tryd.pinned (.plain (OpenSpec.ofChange normJoinsSpec)) normJoinsCard

/-- THE TIED CARD OF 'eggboxlaw05.NormOnes'. -/
def normOnesCard : Claim7 := { stood := { row := normOnesRow, standIns := [], harness := (true, "b414daad54b9d0b08494abd64e408f62d117ebfe8175e1cfde69e226fd2cc268"), looks := false }, kinds := [], alts := [], laidByText := true, laidKinds := [.data], laidTests := true, laidLooks := .later }
def NormOnesCardSaid : Prop := Claim7.holds Tryd.pinned (.plain (OpenSpec.ofChange normOnesSpec)) normOnesCard

/-- THE TIED CARD OF 'eggboxlaw05.NormMembers'. -/
def normMembersCard : Claim7 := { stood := { row := normMembersRow, standIns := [], harness := (true, "b414daad54b9d0b08494abd64e408f62d117ebfe8175e1cfde69e226fd2cc268"), looks := false }, kinds := [], alts := [], laidByText := true, laidKinds := [.data], laidTests := true, laidLooks := .later }
def NormMembersCardSaid : Prop := Claim7.holds Tryd.pinned (.plain (OpenSpec.ofChange normMembersSpec)) normMembersCard

/-- THE TIED CARD OF 'eggboxlaw05.NormOnce'. -/
def normOnceCard : Claim7 := { stood := { row := normOnceRow, standIns := [], harness := (true, "b414daad54b9d0b08494abd64e408f62d117ebfe8175e1cfde69e226fd2cc268"), looks := false }, kinds := [], alts := [], laidByText := true, laidKinds := [.data], laidTests := true, laidLooks := .later }
def NormOnceCardSaid : Prop := Claim7.holds Tryd.pinned (.plain (OpenSpec.ofChange normOnceSpec)) normOnceCard

/-- THE TIED CARD OF 'eggboxlaw05.NormLaws'. -/
def normLawsCard : Claim7 := { stood := { row := normLawsRow, standIns := [], harness := (true, "b414daad54b9d0b08494abd64e408f62d117ebfe8175e1cfde69e226fd2cc268"), looks := false }, kinds := [], alts := [], laidByText := true, laidKinds := [.data], laidTests := true, laidLooks := .later }
def NormLawsCardSaid : Prop := Claim7.holds Tryd.pinned (.plain (OpenSpec.ofChange normLawsSpec)) normLawsCard

/-- THE SECOND FORM's CARD OF 'eggboxlaw05.NormForms'. -/
def normFormsUptoCard : Claim7 := { stood := { row := normFormsUptoRow, standIns := [], harness := (true, "b414daad54b9d0b08494abd64e408f62d117ebfe8175e1cfde69e226fd2cc268"), looks := false }, kinds := [], alts := [], laidByText := true, laidKinds := [.data], laidTests := true, laidLooks := .later }
def NormFormsUptoCardSaid : Prop := Claim7.holds Tryd.pinned (.plain (OpenSpec.upto normFormsSpec)) normFormsUptoCard

/-- THE SECOND FORM's CARD OF 'eggboxlaw05.NormJoins'. -/
def normJoinsUptoCard : Claim7 := { stood := { row := normJoinsUptoRow, standIns := [], harness := (true, "b414daad54b9d0b08494abd64e408f62d117ebfe8175e1cfde69e226fd2cc268"), looks := false }, kinds := [], alts := [], laidByText := true, laidKinds := [.data], laidTests := true, laidLooks := .later }
def NormJoinsUptoCardSaid : Prop := Claim7.holds Tryd.pinned (.plain (OpenSpec.upto normJoinsSpec)) normJoinsUptoCard

/-- THE SECOND FORM's CARD OF 'eggboxlaw05.NormOnes'. -/
def normOnesUptoCard : Claim7 := { stood := { row := normOnesUptoRow, standIns := [], harness := (true, "b414daad54b9d0b08494abd64e408f62d117ebfe8175e1cfde69e226fd2cc268"), looks := false }, kinds := [], alts := [], laidByText := true, laidKinds := [.data], laidTests := true, laidLooks := .later }
def NormOnesUptoCardSaid : Prop := Claim7.holds Tryd.pinned (.plain (OpenSpec.upto normOnesSpec)) normOnesUptoCard

/-- THE SECOND FORM's CARD OF 'eggboxlaw05.NormMembers'. -/
def normMembersUptoCard : Claim7 := { stood := { row := normMembersUptoRow, standIns := [], harness := (true, "b414daad54b9d0b08494abd64e408f62d117ebfe8175e1cfde69e226fd2cc268"), looks := false }, kinds := [], alts := [], laidByText := true, laidKinds := [.data], laidTests := true, laidLooks := .later }
def NormMembersUptoCardSaid : Prop := Claim7.holds Tryd.pinned (.plain (OpenSpec.upto normMembersSpec)) normMembersUptoCard

/-- THE SECOND FORM's CARD OF 'eggboxlaw05.NormOnce'. -/
def normOnceUptoCard : Claim7 := { stood := { row := normOnceUptoRow, standIns := [], harness := (true, "b414daad54b9d0b08494abd64e408f62d117ebfe8175e1cfde69e226fd2cc268"), looks := false }, kinds := [], alts := [], laidByText := true, laidKinds := [.data], laidTests := true, laidLooks := .later }
def NormOnceUptoCardSaid : Prop := Claim7.holds Tryd.pinned (.plain (OpenSpec.upto normOnceSpec)) normOnceUptoCard

/-- THE SECOND FORM's CARD OF 'eggboxlaw05.NormLaws'. -/
def normLawsUptoCard : Claim7 := { stood := { row := normLawsUptoRow, standIns := [], harness := (true, "b414daad54b9d0b08494abd64e408f62d117ebfe8175e1cfde69e226fd2cc268"), looks := false }, kinds := [], alts := [], laidByText := true, laidKinds := [.data], laidTests := true, laidLooks := .later }
def NormLawsUptoCardSaid : Prop := Claim7.holds Tryd.pinned (.plain (OpenSpec.upto normLawsSpec)) normLawsUptoCard
end Rows
end Go.Proofs.YtdmjcfecahcdnaaDoor
