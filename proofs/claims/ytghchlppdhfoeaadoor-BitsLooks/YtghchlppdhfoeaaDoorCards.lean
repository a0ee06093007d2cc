/-
  DERIVED. GIVEN WITH THE SEED: THE CARDS: each row of YtghchlppdhfoeaaDoorRows.lean that lists a variable, with what it lists TIED to the program's text (the seventh form; the later family's looks); each row that meets fmt, with fmt's text TOLD by the authors' own Lean function (tested against real Go, not proved from fmt's source: count such statements apart). THE CARD IS WHAT COUNTS. Prove the row's statement (the work); the ties are given (YtghchlppdhfoeaaDoorTie.lean); close each card by the builder's one call (the guide's Derived/Test/ToyasCard.lean, 'card_holds'). Laid BY PROGRAM, IN A SANDBOX (cutbox-door.mjs). By AI agents, Wed Nov 11 2026. No macro, syntax, notation, axiom, sorry.
-/
import Derived.Test.YtghchlppdhfoeaaDoorRows
import GoSem.ClaimSeven
namespace Go.Proofs.YtghchlppdhfoeaaDoor
namespace Rows

/-- THE TIED CARD OF 'eggboxlaw02.BitsLists'. -/
def bitsListsCard : Claim7 := { stood := { row := bitsListsRow, standIns := [], harness := (true, "10f1409fac56ec0525264c076ff2ea3d8a215bd17a89e180a65c30fe477c6874"), looks := false }, kinds := [], alts := [], laidByText := true, laidKinds := [.data], laidTests := true, laidLooks := .later }
def BitsListsCardSaid : Prop := Claim7.holds Tryd.pinned (.plain (OpenSpec.ofChange bitsListsSpec)) bitsListsCard

/-- THE TIED CARD OF 'eggboxlaw02.BitsLooks'. -/
def bitsLooksCard : Claim7 := { stood := { row := bitsLooksRow, standIns := [], harness := (true, "10f1409fac56ec0525264c076ff2ea3d8a215bd17a89e180a65c30fe477c6874"), looks := false }, kinds := [], alts := [], laidByText := true, laidKinds := [.data], laidTests := true, laidLooks := .later }
def BitsLooksCardSaid : Prop := Claim7.holds Tryd.pinned (.plain (OpenSpec.ofChange bitsLooksSpec)) bitsLooksCard

/-- THE TIED CARD OF 'eggboxlaw02.BitsLaws'. -/
def bitsLawsCard : Claim7 := { stood := { row := bitsLawsRow, standIns := [], harness := (true, "10f1409fac56ec0525264c076ff2ea3d8a215bd17a89e180a65c30fe477c6874"), looks := false }, kinds := [], alts := [], laidByText := true, laidKinds := [.data], laidTests := true, laidLooks := .later }
def BitsLawsCardSaid : Prop := Claim7.holds Tryd.pinned (.plain (OpenSpec.ofChange bitsLawsSpec)) bitsLawsCard

/-- THE SECOND FORM's CARD OF 'eggboxlaw02.BitsLists'. -/
def bitsListsUptoCard : Claim7 := { stood := { row := bitsListsUptoRow, standIns := [], harness := (true, "10f1409fac56ec0525264c076ff2ea3d8a215bd17a89e180a65c30fe477c6874"), looks := false }, kinds := [], alts := [], laidByText := true, laidKinds := [.data], laidTests := true, laidLooks := .later }
def BitsListsUptoCardSaid : Prop := Claim7.holds Tryd.pinned (.plain (OpenSpec.upto bitsListsSpec)) bitsListsUptoCard

/-- THE SECOND FORM's CARD OF 'eggboxlaw02.BitsLooks'. -/
def bitsLooksUptoCard : Claim7 := { stood := { row := bitsLooksUptoRow, standIns := [], harness := (true, "10f1409fac56ec0525264c076ff2ea3d8a215bd17a89e180a65c30fe477c6874"), looks := false }, kinds := [], alts := [], laidByText := true, laidKinds := [.data], laidTests := true, laidLooks := .later }
def BitsLooksUptoCardSaid : Prop := Claim7.holds Tryd.pinned (.plain (OpenSpec.upto bitsLooksSpec)) bitsLooksUptoCard

/-- THE SECOND FORM's CARD OF 'eggboxlaw02.BitsLaws'. -/
def bitsLawsUptoCard : Claim7 := { stood := { row := bitsLawsUptoRow, standIns := [], harness := (true, "10f1409fac56ec0525264c076ff2ea3d8a215bd17a89e180a65c30fe477c6874"), looks := false }, kinds := [], alts := [], laidByText := true, laidKinds := [.data], laidTests := true, laidLooks := .later }
def BitsLawsUptoCardSaid : Prop := Claim7.holds Tryd.pinned (.plain (OpenSpec.upto bitsLawsSpec)) bitsLawsUptoCard
end Rows
end Go.Proofs.YtghchlppdhfoeaaDoor
