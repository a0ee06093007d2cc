/-
  DERIVED. GIVEN WITH THE SEED: THE CARDS: each row of YtdmjcfecahcdnabDoorRows.lean that lists a variable, with what it lists TIED to the program's text (the seventh form; the later family's looks); each row that meets fmt, with fmt's text TOLD by the authors' own Lean function (tested against real Go, not proved from fmt's source: count such statements apart). THE CARD IS WHAT COUNTS. Prove the row's statement (the work); the ties are given (YtdmjcfecahcdnabDoorTie.lean); close each card by the builder's one call (the guide's Derived/Test/ToyasCard.lean, 'card_holds'). Laid BY PROGRAM, IN A SANDBOX (cutbox-door.mjs). By AI agents, Wed Nov 11 2026. No macro, syntax, notation, axiom, sorry.
-/
import Derived.Test.YtdmjcfecahcdnabDoorRows
import GoSem.ClaimSeven
namespace Go.Proofs.YtdmjcfecahcdnabDoor
namespace Rows

/-- THE TIED CARD OF 'eggboxlaw05.NormSorted'. -/
def normSortedCard : Claim7 := { stood := { row := normSortedRow, standIns := [], harness := (true, "82526ad665514265774614fc84625637d4acbe7579ab144ca67860757c34d333"), looks := false }, kinds := [], alts := [], laidByText := true, laidKinds := [.data], laidTests := true, laidLooks := .later }
def NormSortedCardSaid : Prop := Claim7.holds Tryd.pinned (.plain (OpenSpec.ofChange normSortedSpec)) normSortedCard

/-- THE SECOND FORM's CARD OF 'eggboxlaw05.NormSorted'. -/
def normSortedUptoCard : Claim7 := { stood := { row := normSortedUptoRow, standIns := [], harness := (true, "82526ad665514265774614fc84625637d4acbe7579ab144ca67860757c34d333"), looks := false }, kinds := [], alts := [], laidByText := true, laidKinds := [.data], laidTests := true, laidLooks := .later }
def NormSortedUptoCardSaid : Prop := Claim7.holds Tryd.pinned (.plain (OpenSpec.upto normSortedSpec)) normSortedUptoCard
end Rows
end Go.Proofs.YtdmjcfecahcdnabDoor
