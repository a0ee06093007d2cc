/-
  DERIVED. GIVEN WITH THE SEED: THE CARDS: each row of YtfdhaknecjcjoaaGreatDoorRows.lean that lists a variable, with what it lists TIED to the program's text (the seventh form; the later family's looks); each row that meets fmt, with fmt's text TOLD by the authors' own Lean function (tested against real Go, not proved from fmt's source: count such statements apart). THE CARD IS WHAT COUNTS. Prove the row's statement (the work); the ties are given (YtfdhaknecjcjoaaGreatDoorTie.lean); close each card by the builder's one call (the guide's Derived/Test/ToyasCard.lean, 'card_holds'). Laid BY PROGRAM, IN A SANDBOX (cutbox-door.mjs). By AI agents, Wed Nov 11 2026. No macro, syntax, notation, axiom, sorry.
-/
import Derived.Test.YtfdhaknecjcjoaaGreatDoorRows
import GoSem.ClaimSeven
namespace Go.Proofs.YtfdhaknecjcjoaaGreatDoor
namespace Rows

/-- THE TIED CARD OF 'eggboxlaw07.DerivSteps'. -/
def derivStepsCard : Claim7 := { stood := { row := derivStepsRow, standIns := [], harness := (true, "f1ddeb86a404e66433fc3edcced06eb03424df9f8f2b565ab381a835c8e8444c"), looks := false }, kinds := [], alts := [], laidByText := true, laidKinds := [.data, .data], laidTests := true, laidLooks := .later }
def DerivStepsCardSaid : Prop := Claim7.holds Tryz.pinned (.plain (OpenSpec.ofChange derivStepsSpec)) derivStepsCard

/-- THE TIED CARD OF 'eggboxlaw07.DerivClasses'. -/
def derivClassesCard : Claim7 := { stood := { row := derivClassesRow, standIns := [], harness := (true, "f1ddeb86a404e66433fc3edcced06eb03424df9f8f2b565ab381a835c8e8444c"), looks := false }, kinds := [], alts := [], laidByText := true, laidKinds := [.data, .data], laidTests := true, laidLooks := .later }
def DerivClassesCardSaid : Prop := Claim7.holds Tryz.pinned (.plain (OpenSpec.ofChange derivClassesSpec)) derivClassesCard

/-- THE TIED CARD OF 'eggboxlaw07.DerivSays'. -/
def derivSaysCard : Claim7 := { stood := { row := derivSaysRow, standIns := [], harness := (true, "f1ddeb86a404e66433fc3edcced06eb03424df9f8f2b565ab381a835c8e8444c"), looks := false }, kinds := [], alts := [], laidByText := true, laidKinds := [.data, .data], laidTests := true, laidLooks := .later }
def DerivSaysCardSaid : Prop := Claim7.holds Tryz.pinned (.plain (OpenSpec.ofChange derivSaysSpec)) derivSaysCard

/-- THE TIED CARD OF 'eggboxlaw07.DerivOn'. -/
def derivOnCard : Claim7 := { stood := { row := derivOnRow, standIns := [], harness := (true, "f1ddeb86a404e66433fc3edcced06eb03424df9f8f2b565ab381a835c8e8444c"), looks := false }, kinds := [], alts := [], laidByText := true, laidKinds := [.data, .data], laidTests := true, laidLooks := .later }
def DerivOnCardSaid : Prop := Claim7.holds Tryz.pinned (.plain (OpenSpec.ofChange derivOnSpec)) derivOnCard

/-- THE TIED CARD OF 'eggboxlaw07.DerivNorm'. -/
def derivNormCard : Claim7 := { stood := { row := derivNormRow, standIns := [], harness := (true, "f1ddeb86a404e66433fc3edcced06eb03424df9f8f2b565ab381a835c8e8444c"), looks := false }, kinds := [], alts := [], laidByText := true, laidKinds := [.data, .data], laidTests := true, laidLooks := .later }
def DerivNormCardSaid : Prop := Claim7.holds Tryz.pinned (.plain (OpenSpec.ofChange derivNormSpec)) derivNormCard

/-- THE TIED CARD OF 'eggboxlaw07.DerivLike'. -/
def derivLikeCard : Claim7 := { stood := { row := derivLikeRow, standIns := [], harness := (true, "f1ddeb86a404e66433fc3edcced06eb03424df9f8f2b565ab381a835c8e8444c"), looks := false }, kinds := [], alts := [], laidByText := true, laidKinds := [.data, .data], laidTests := true, laidLooks := .later }
def DerivLikeCardSaid : Prop := Claim7.holds Tryz.pinned (.plain (OpenSpec.ofChange derivLikeSpec)) derivLikeCard

/-- THE SECOND FORM's CARD OF 'eggboxlaw07.DerivSteps'. -/
def derivStepsUptoCard : Claim7 := { stood := { row := derivStepsUptoRow, standIns := [], harness := (true, "f1ddeb86a404e66433fc3edcced06eb03424df9f8f2b565ab381a835c8e8444c"), looks := false }, kinds := [], alts := [], laidByText := true, laidKinds := [.data, .data], laidTests := true, laidLooks := .later }
def DerivStepsUptoCardSaid : Prop := Claim7.holds Tryz.pinned (.plain (OpenSpec.upto derivStepsSpec)) derivStepsUptoCard

/-- THE SECOND FORM's CARD OF 'eggboxlaw07.DerivClasses'. -/
def derivClassesUptoCard : Claim7 := { stood := { row := derivClassesUptoRow, standIns := [], harness := (true, "f1ddeb86a404e66433fc3edcced06eb03424df9f8f2b565ab381a835c8e8444c"), looks := false }, kinds := [], alts := [], laidByText := true, laidKinds := [.data, .data], laidTests := true, laidLooks := .later }
def DerivClassesUptoCardSaid : Prop := Claim7.holds Tryz.pinned (.plain (OpenSpec.upto derivClassesSpec)) derivClassesUptoCard

/-- THE SECOND FORM's CARD OF 'eggboxlaw07.DerivSays'. -/
def derivSaysUptoCard : Claim7 := { stood := { row := derivSaysUptoRow, standIns := [], harness := (true, "f1ddeb86a404e66433fc3edcced06eb03424df9f8f2b565ab381a835c8e8444c"), looks := false }, kinds := [], alts := [], laidByText := true, laidKinds := [.data, .data], laidTests := true, laidLooks := .later }
def DerivSaysUptoCardSaid : Prop := Claim7.holds Tryz.pinned (.plain (OpenSpec.upto derivSaysSpec)) derivSaysUptoCard

/-- THE SECOND FORM's CARD OF 'eggboxlaw07.DerivOn'. -/
def derivOnUptoCard : Claim7 := { stood := { row := derivOnUptoRow, standIns := [], harness := (true, "f1ddeb86a404e66433fc3edcced06eb03424df9f8f2b565ab381a835c8e8444c"), looks := false }, kinds := [], alts := [], laidByText := true, laidKinds := [.data, .data], laidTests := true, laidLooks := .later }
def DerivOnUptoCardSaid : Prop := Claim7.holds Tryz.pinned (.plain (OpenSpec.upto derivOnSpec)) derivOnUptoCard

/-- THE SECOND FORM's CARD OF 'eggboxlaw07.DerivNorm'. -/
def derivNormUptoCard : Claim7 := { stood := { row := derivNormUptoRow, standIns := [], harness := (true, "f1ddeb86a404e66433fc3edcced06eb03424df9f8f2b565ab381a835c8e8444c"), looks := false }, kinds := [], alts := [], laidByText := true, laidKinds := [.data, .data], laidTests := true, laidLooks := .later }
def DerivNormUptoCardSaid : Prop := Claim7.holds Tryz.pinned (.plain (OpenSpec.upto derivNormSpec)) derivNormUptoCard

/-- THE SECOND FORM's CARD OF 'eggboxlaw07.DerivLike'. -/
def derivLikeUptoCard : Claim7 := { stood := { row := derivLikeUptoRow, standIns := [], harness := (true, "f1ddeb86a404e66433fc3edcced06eb03424df9f8f2b565ab381a835c8e8444c"), looks := false }, kinds := [], alts := [], laidByText := true, laidKinds := [.data, .data], laidTests := true, laidLooks := .later }
def DerivLikeUptoCardSaid : Prop := Claim7.holds Tryz.pinned (.plain (OpenSpec.upto derivLikeSpec)) derivLikeUptoCard
end Rows
end Go.Proofs.YtfdhaknecjcjoaaGreatDoor
