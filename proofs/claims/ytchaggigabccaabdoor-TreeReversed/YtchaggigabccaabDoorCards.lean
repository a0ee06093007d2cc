/-
  DERIVED. GIVEN WITH THE SEED: THE CARDS: each row of YtchaggigabccaabDoorRows.lean that lists a variable, with what it lists TIED to the program's text (the seventh form; the later family's looks); each row that meets fmt, with fmt's text TOLD by the authors' own Lean function (tested against real Go, not proved from fmt's source: count such statements apart). THE CARD IS WHAT COUNTS. Prove the row's statement (the work); the ties are given (YtchaggigabccaabDoorTie.lean); close each card by the builder's one call (the guide's Derived/Test/ToyasCard.lean, 'card_holds'). Laid BY PROGRAM, IN A SANDBOX (cutbox-door.mjs). By AI agents, Wed Nov 11 2026. No macro, syntax, notation, axiom, sorry.
-/
import Derived.Test.YtchaggigabccaabDoorRows
import GoSem.ClaimSeven
namespace Go.Proofs.YtchaggigabccaabDoor
namespace Rows

/-- THE TIED CARD OF 'eggboxlaw03.TreeReversed'. -/
def treeReversedCard : Claim7 := { stood := { row := treeReversedRow, standIns := [], harness := (true, "f4da79c01b06a6c8651d62745831bc69100b35b514a3fa88da8ccbeb262f2b52"), looks := false }, kinds := [], alts := [], laidByText := true, laidKinds := [.data], laidTests := true, laidLooks := .later }
def TreeReversedCardSaid : Prop := Claim7.holds Tryd.pinned (.plain (OpenSpec.ofChange treeReversedSpec)) treeReversedCard

/-- THE TIED CARD OF 'eggboxlaw03.TreeOrder'. -/
def treeOrderCard : Claim7 := { stood := { row := treeOrderRow, standIns := [], harness := (true, "f4da79c01b06a6c8651d62745831bc69100b35b514a3fa88da8ccbeb262f2b52"), looks := false }, kinds := [], alts := [], laidByText := true, laidKinds := [.data], laidTests := true, laidLooks := .later }
def TreeOrderCardSaid : Prop := Claim7.holds Tryd.pinned (.plain (OpenSpec.ofChange treeOrderSpec)) treeOrderCard

/-- THE SECOND FORM's CARD OF 'eggboxlaw03.TreeReversed'. -/
def treeReversedUptoCard : Claim7 := { stood := { row := treeReversedUptoRow, standIns := [], harness := (true, "f4da79c01b06a6c8651d62745831bc69100b35b514a3fa88da8ccbeb262f2b52"), looks := false }, kinds := [], alts := [], laidByText := true, laidKinds := [.data], laidTests := true, laidLooks := .later }
def TreeReversedUptoCardSaid : Prop := Claim7.holds Tryd.pinned (.plain (OpenSpec.upto treeReversedSpec)) treeReversedUptoCard

/-- THE SECOND FORM's CARD OF 'eggboxlaw03.TreeOrder'. -/
def treeOrderUptoCard : Claim7 := { stood := { row := treeOrderUptoRow, standIns := [], harness := (true, "f4da79c01b06a6c8651d62745831bc69100b35b514a3fa88da8ccbeb262f2b52"), looks := false }, kinds := [], alts := [], laidByText := true, laidKinds := [.data], laidTests := true, laidLooks := .later }
def TreeOrderUptoCardSaid : Prop := Claim7.holds Tryd.pinned (.plain (OpenSpec.upto treeOrderSpec)) treeOrderUptoCard
end Rows
end Go.Proofs.YtchaggigabccaabDoor
