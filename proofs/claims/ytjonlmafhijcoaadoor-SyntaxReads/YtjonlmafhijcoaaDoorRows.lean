/-
  NARROWER THAN 'FOR EVERY INPUT', by the rows' own cells (each row's printed sentence says how): SyntaxReads: laid · SyntaxPrints: laid · SyntaxBack: laid · SyntaxRead: laid · SyntaxBlanks: laid · SyntaxMore: laid.
  DERIVED. THE GIVEN ROWS OF THIS SEAT. 6 by the template 'for every input the law returns true; each argument reads behind the call as it read before'; 0 by the template 'total and deterministic' (their statements: YtjonlmafhijcoaaDoorTotals.lean).
  GIVEN WITH THE SEED: the statements are not yours to turn. If you find one false, say at which input.
  Laid BY PROGRAM, IN A SANDBOX (cutbox-rows.mjs): the forced cells as the released guide's own fill.sh prints them over the translation f9ed574a6d1c6f43… (all of the seat's roots in one cut). By AI agents, Wed Nov 11 2026. No macro, syntax, notation, axiom, sorry.
-/
import Derived.Test.YtjonlmafhijcoaaDoorChecked
import GoSem.Claim
import GoSem.ClaimJoined
import GoSem.ClaimMapViews
import Derived.JoinedTies
import Derived.KernelRfl
namespace Go.Proofs.YtjonlmafhijcoaaDoor
/- THE CELL 'sum', in the pinned program and in every row, IS THE sha256 OF THE DUMP (.gsa) THAT YtjonlmafhijcoaaDoorProg.lean LOADS. Nothing in Lean hashes anything: it is a label: what it is worth is what the hold of that sum in a sandbox is worth. -/
noncomputable def Tryd.pinned : Pinned := { name := "ytjonlmafhijcoaadoor", sum := "f9ed574a6d1c6f431394b20ad73718edcf2baf0389228cfc665fda7f6b7ee02a", checked := Tryd.checked }
namespace Rows
def none {H : Type} : Left H := { results := [], args := [] }

/- WHAT THE LISTED PACKAGE-LEVEL VARIABLES READ AS WHEN THE CALL BEGINS. Each datum BY PROGRAM (the guide's laid-datum.mjs) off the statement by which the dump's own 'gosem.cut.vars' lays the variable. In a bare row this is a premise. The card (YtjonlmafhijcoaaDoorCards.lean) ties it to the program's text. -/
def laid_eggbox_tree_partsOf {H : Type} : DataW H := .agg [.lit (.int .i64 0), .lit (.int .i64 0), .lit (.int .i64 0), .lit (.int .i64 0), .lit (.int .i64 0), .lit (.int .i64 2), .lit (.int .i64 2), .lit (.int .i64 2), .lit (.int .i64 1), .lit (.int .i64 1)]
def laid_eggbox_syntax_tightness {H : Type} : DataW H := .agg [.lit (.int .i64 0), .lit (.int .i64 5), .lit (.int .i64 5), .lit (.int .i64 5), .lit (.int .i64 5), .lit (.int .i64 1), .lit (.int .i64 2), .lit (.int .i64 3), .lit (.int .i64 5), .lit (.int .i64 4)]

/-- 'eggboxlaw04.SyntaxReads': WHATEVER THE INPUT: true; the input reads as it did. -/
def syntaxReadsSpec : ChangeSpec := { name := "syntaxReads", fn := fun _ => fun
  | [d1, d2] => { results := [.lit (.bool true)], args := [d1, d2] }
  | _ => none }
def syntaxReadsRow : OpenClaim := { program := "ytjonlmafhijcoaadoor", sum := "f9ed574a6d1c6f431394b20ad73718edcf2baf0389228cfc665fda7f6b7ee02a", func := "eggbox/eggboxlaw04.SyntaxReads", spec := "syntaxReads", unfollowed := true, recurses := true, named := ["eggbox/syntax.tightness", "eggbox/tree.partsOf"], apart := false, laid := [("eggbox/tree.partsOf", laid_eggbox_tree_partsOf), ("eggbox/syntax.tightness", laid_eggbox_syntax_tightness)] }
def SyntaxReadsSaid : Prop := syntaxReadsRow.holds Tryd.pinned (OpenSpec.ofChange syntaxReadsSpec)

/-- ITS FALSE NEIGHBOUR: 'it returns false'. Refute it at one input. -/
def syntaxReadsWrong : ChangeSpec := { name := "syntaxReads", fn := fun _ => fun
  | [d1, d2] => { results := [.lit (.bool false)], args := [d1, d2] }
  | _ => none }
def SyntaxReadsWrongFalsely : Prop := syntaxReadsRow.holds Tryd.pinned (OpenSpec.ofChange syntaxReadsWrong)

/-- 'eggboxlaw04.SyntaxPrints': WHATEVER THE INPUT: true; the input reads as it did. -/
def syntaxPrintsSpec : ChangeSpec := { name := "syntaxPrints", fn := fun _ => fun
  | [d1, d2] => { results := [.lit (.bool true)], args := [d1, d2] }
  | _ => none }
def syntaxPrintsRow : OpenClaim := { program := "ytjonlmafhijcoaadoor", sum := "f9ed574a6d1c6f431394b20ad73718edcf2baf0389228cfc665fda7f6b7ee02a", func := "eggbox/eggboxlaw04.SyntaxPrints", spec := "syntaxPrints", unfollowed := true, recurses := true, named := ["eggbox/syntax.tightness", "eggbox/tree.partsOf"], apart := false, laid := [("eggbox/tree.partsOf", laid_eggbox_tree_partsOf), ("eggbox/syntax.tightness", laid_eggbox_syntax_tightness)] }
def SyntaxPrintsSaid : Prop := syntaxPrintsRow.holds Tryd.pinned (OpenSpec.ofChange syntaxPrintsSpec)

/-- ITS FALSE NEIGHBOUR: 'it returns false'. Refute it at one input. -/
def syntaxPrintsWrong : ChangeSpec := { name := "syntaxPrints", fn := fun _ => fun
  | [d1, d2] => { results := [.lit (.bool false)], args := [d1, d2] }
  | _ => none }
def SyntaxPrintsWrongFalsely : Prop := syntaxPrintsRow.holds Tryd.pinned (OpenSpec.ofChange syntaxPrintsWrong)

/-- 'eggboxlaw04.SyntaxBack': WHATEVER THE INPUT: true; the input reads as it did. -/
def syntaxBackSpec : ChangeSpec := { name := "syntaxBack", fn := fun _ => fun
  | [d1, d2] => { results := [.lit (.bool true)], args := [d1, d2] }
  | _ => none }
def syntaxBackRow : OpenClaim := { program := "ytjonlmafhijcoaadoor", sum := "f9ed574a6d1c6f431394b20ad73718edcf2baf0389228cfc665fda7f6b7ee02a", func := "eggbox/eggboxlaw04.SyntaxBack", spec := "syntaxBack", unfollowed := true, recurses := true, named := ["eggbox/syntax.tightness", "eggbox/tree.partsOf"], apart := false, laid := [("eggbox/tree.partsOf", laid_eggbox_tree_partsOf), ("eggbox/syntax.tightness", laid_eggbox_syntax_tightness)] }
def SyntaxBackSaid : Prop := syntaxBackRow.holds Tryd.pinned (OpenSpec.ofChange syntaxBackSpec)

/-- ITS FALSE NEIGHBOUR: 'it returns false'. Refute it at one input. -/
def syntaxBackWrong : ChangeSpec := { name := "syntaxBack", fn := fun _ => fun
  | [d1, d2] => { results := [.lit (.bool false)], args := [d1, d2] }
  | _ => none }
def SyntaxBackWrongFalsely : Prop := syntaxBackRow.holds Tryd.pinned (OpenSpec.ofChange syntaxBackWrong)

/-- 'eggboxlaw04.SyntaxRead': WHATEVER THE INPUT: true; the input reads as it did. -/
def syntaxReadSpec : ChangeSpec := { name := "syntaxRead", fn := fun _ => fun
  | [d1, d2] => { results := [.lit (.bool true)], args := [d1, d2] }
  | _ => none }
def syntaxReadRow : OpenClaim := { program := "ytjonlmafhijcoaadoor", sum := "f9ed574a6d1c6f431394b20ad73718edcf2baf0389228cfc665fda7f6b7ee02a", func := "eggbox/eggboxlaw04.SyntaxRead", spec := "syntaxRead", unfollowed := true, recurses := true, named := ["eggbox/syntax.tightness", "eggbox/tree.partsOf"], apart := false, laid := [("eggbox/tree.partsOf", laid_eggbox_tree_partsOf), ("eggbox/syntax.tightness", laid_eggbox_syntax_tightness)] }
def SyntaxReadSaid : Prop := syntaxReadRow.holds Tryd.pinned (OpenSpec.ofChange syntaxReadSpec)

/-- ITS FALSE NEIGHBOUR: 'it returns false'. Refute it at one input. -/
def syntaxReadWrong : ChangeSpec := { name := "syntaxRead", fn := fun _ => fun
  | [d1, d2] => { results := [.lit (.bool false)], args := [d1, d2] }
  | _ => none }
def SyntaxReadWrongFalsely : Prop := syntaxReadRow.holds Tryd.pinned (OpenSpec.ofChange syntaxReadWrong)

/-- 'eggboxlaw04.SyntaxBlanks': WHATEVER THE INPUT: true; the input reads as it did. -/
def syntaxBlanksSpec : ChangeSpec := { name := "syntaxBlanks", fn := fun _ => fun
  | [d1, d2, d3] => { results := [.lit (.bool true)], args := [d1, d2, d3] }
  | _ => none }
def syntaxBlanksRow : OpenClaim := { program := "ytjonlmafhijcoaadoor", sum := "f9ed574a6d1c6f431394b20ad73718edcf2baf0389228cfc665fda7f6b7ee02a", func := "eggbox/eggboxlaw04.SyntaxBlanks", spec := "syntaxBlanks", unfollowed := true, recurses := true, named := ["eggbox/syntax.tightness", "eggbox/tree.partsOf"], apart := false, laid := [("eggbox/tree.partsOf", laid_eggbox_tree_partsOf), ("eggbox/syntax.tightness", laid_eggbox_syntax_tightness)] }
def SyntaxBlanksSaid : Prop := syntaxBlanksRow.holds Tryd.pinned (OpenSpec.ofChange syntaxBlanksSpec)

/-- ITS FALSE NEIGHBOUR: 'it returns false'. Refute it at one input. -/
def syntaxBlanksWrong : ChangeSpec := { name := "syntaxBlanks", fn := fun _ => fun
  | [d1, d2, d3] => { results := [.lit (.bool false)], args := [d1, d2, d3] }
  | _ => none }
def SyntaxBlanksWrongFalsely : Prop := syntaxBlanksRow.holds Tryd.pinned (OpenSpec.ofChange syntaxBlanksWrong)

/-- 'eggboxlaw04.SyntaxMore': WHATEVER THE INPUT: true; the input reads as it did. -/
def syntaxMoreSpec : ChangeSpec := { name := "syntaxMore", fn := fun _ => fun
  | [d1, d2] => { results := [.lit (.bool true)], args := [d1, d2] }
  | _ => none }
def syntaxMoreRow : OpenClaim := { program := "ytjonlmafhijcoaadoor", sum := "f9ed574a6d1c6f431394b20ad73718edcf2baf0389228cfc665fda7f6b7ee02a", func := "eggbox/eggboxlaw04.SyntaxMore", spec := "syntaxMore", unfollowed := true, recurses := true, named := ["eggbox/syntax.tightness", "eggbox/tree.partsOf"], apart := false, laid := [("eggbox/tree.partsOf", laid_eggbox_tree_partsOf), ("eggbox/syntax.tightness", laid_eggbox_syntax_tightness)] }
def SyntaxMoreSaid : Prop := syntaxMoreRow.holds Tryd.pinned (OpenSpec.ofChange syntaxMoreSpec)

/-- ITS FALSE NEIGHBOUR: 'it returns false'. Refute it at one input. -/
def syntaxMoreWrong : ChangeSpec := { name := "syntaxMore", fn := fun _ => fun
  | [d1, d2] => { results := [.lit (.bool false)], args := [d1, d2] }
  | _ => none }
def SyntaxMoreWrongFalsely : Prop := syntaxMoreRow.holds Tryd.pinned (OpenSpec.ofChange syntaxMoreWrong)

/- THE SECOND FORM. 'bulk': how many values and letters a reading holds, each counted each time it is reached (what is shared counts as often as it is met; a slice's spare places count too). A statement '..UptoSaid' is the law's where the arguments, and the package variables that the reading takes, are together of bulk at most 1048576: NARROWER than '..Said'. Prove '..Said' where nothing that the law and all that it calls make is longer than what came in: it says more and counts as full. Else prove '..UptoSaid'. A law counts once. -/
mutual
def uptoBulk {H : Type} : DataW H → Nat
  | .lit (.string bytes) => bytes.length + 1
  | .lit _ => 1
  | .nil => 1
  | .ptr d => uptoBulk d + 1
  | .slice elems spare => uptoBulkAll elems + uptoBulkAll spare + 1
  | .agg parts => uptoBulkAll parts + 1
  | .iface _ d => uptoBulk d + 1
  | .map entries => uptoBulkEntries entries + 1
  | .held _ => 1
def uptoBulkAll {H : Type} : List (DataW H) → Nat
  | [] => 0
  | d :: r => uptoBulk d + uptoBulkAll r
def uptoBulkEntries {H : Type} : List (Lit × DataW H) → Nat
  | [] => 0
  | x :: r => uptoBulkEntry x + uptoBulkEntries r
def uptoBulkEntry {H : Type} : Lit × DataW H → Nat
  | (.string bytes, d) => bytes.length + uptoBulk d + 1
  | (_, d) => uptoBulk d + 1
 end
def uptoSmall : (H : Type) → List (DataW H) → Bool := fun _ ds => decide (uptoBulkAll ds ≤ 1048576)
def OpenSpec.upto (s : _root_.Go.ChangeSpec) : _root_.Go.OpenSpec := { _root_.Go.OpenSpec.ofChange s with cond := some uptoSmall }

/-- 'eggboxlaw04.SyntaxReads', WHERE WHAT IT READS IS OF BULK AT MOST 1048576: true; the input reads as it did. -/
def syntaxReadsUptoRow : OpenClaim := { program := "ytjonlmafhijcoaadoor", sum := "f9ed574a6d1c6f431394b20ad73718edcf2baf0389228cfc665fda7f6b7ee02a", func := "eggbox/eggboxlaw04.SyntaxReads", spec := "syntaxReads", unfollowed := true, recurses := true, named := ["eggbox/syntax.tightness", "eggbox/tree.partsOf"], apart := false, laid := [("eggbox/tree.partsOf", laid_eggbox_tree_partsOf), ("eggbox/syntax.tightness", laid_eggbox_syntax_tightness)], narrowed := true }
def SyntaxReadsUptoSaid : Prop := syntaxReadsUptoRow.holds Tryd.pinned (OpenSpec.upto syntaxReadsSpec)

/-- 'eggboxlaw04.SyntaxPrints', WHERE WHAT IT READS IS OF BULK AT MOST 1048576: true; the input reads as it did. -/
def syntaxPrintsUptoRow : OpenClaim := { program := "ytjonlmafhijcoaadoor", sum := "f9ed574a6d1c6f431394b20ad73718edcf2baf0389228cfc665fda7f6b7ee02a", func := "eggbox/eggboxlaw04.SyntaxPrints", spec := "syntaxPrints", unfollowed := true, recurses := true, named := ["eggbox/syntax.tightness", "eggbox/tree.partsOf"], apart := false, laid := [("eggbox/tree.partsOf", laid_eggbox_tree_partsOf), ("eggbox/syntax.tightness", laid_eggbox_syntax_tightness)], narrowed := true }
def SyntaxPrintsUptoSaid : Prop := syntaxPrintsUptoRow.holds Tryd.pinned (OpenSpec.upto syntaxPrintsSpec)

/-- 'eggboxlaw04.SyntaxBack', WHERE WHAT IT READS IS OF BULK AT MOST 1048576: true; the input reads as it did. -/
def syntaxBackUptoRow : OpenClaim := { program := "ytjonlmafhijcoaadoor", sum := "f9ed574a6d1c6f431394b20ad73718edcf2baf0389228cfc665fda7f6b7ee02a", func := "eggbox/eggboxlaw04.SyntaxBack", spec := "syntaxBack", unfollowed := true, recurses := true, named := ["eggbox/syntax.tightness", "eggbox/tree.partsOf"], apart := false, laid := [("eggbox/tree.partsOf", laid_eggbox_tree_partsOf), ("eggbox/syntax.tightness", laid_eggbox_syntax_tightness)], narrowed := true }
def SyntaxBackUptoSaid : Prop := syntaxBackUptoRow.holds Tryd.pinned (OpenSpec.upto syntaxBackSpec)

/-- 'eggboxlaw04.SyntaxRead', WHERE WHAT IT READS IS OF BULK AT MOST 1048576: true; the input reads as it did. -/
def syntaxReadUptoRow : OpenClaim := { program := "ytjonlmafhijcoaadoor", sum := "f9ed574a6d1c6f431394b20ad73718edcf2baf0389228cfc665fda7f6b7ee02a", func := "eggbox/eggboxlaw04.SyntaxRead", spec := "syntaxRead", unfollowed := true, recurses := true, named := ["eggbox/syntax.tightness", "eggbox/tree.partsOf"], apart := false, laid := [("eggbox/tree.partsOf", laid_eggbox_tree_partsOf), ("eggbox/syntax.tightness", laid_eggbox_syntax_tightness)], narrowed := true }
def SyntaxReadUptoSaid : Prop := syntaxReadUptoRow.holds Tryd.pinned (OpenSpec.upto syntaxReadSpec)

/-- 'eggboxlaw04.SyntaxBlanks', WHERE WHAT IT READS IS OF BULK AT MOST 1048576: true; the input reads as it did. -/
def syntaxBlanksUptoRow : OpenClaim := { program := "ytjonlmafhijcoaadoor", sum := "f9ed574a6d1c6f431394b20ad73718edcf2baf0389228cfc665fda7f6b7ee02a", func := "eggbox/eggboxlaw04.SyntaxBlanks", spec := "syntaxBlanks", unfollowed := true, recurses := true, named := ["eggbox/syntax.tightness", "eggbox/tree.partsOf"], apart := false, laid := [("eggbox/tree.partsOf", laid_eggbox_tree_partsOf), ("eggbox/syntax.tightness", laid_eggbox_syntax_tightness)], narrowed := true }
def SyntaxBlanksUptoSaid : Prop := syntaxBlanksUptoRow.holds Tryd.pinned (OpenSpec.upto syntaxBlanksSpec)

/-- 'eggboxlaw04.SyntaxMore', WHERE WHAT IT READS IS OF BULK AT MOST 1048576: true; the input reads as it did. -/
def syntaxMoreUptoRow : OpenClaim := { program := "ytjonlmafhijcoaadoor", sum := "f9ed574a6d1c6f431394b20ad73718edcf2baf0389228cfc665fda7f6b7ee02a", func := "eggbox/eggboxlaw04.SyntaxMore", spec := "syntaxMore", unfollowed := true, recurses := true, named := ["eggbox/syntax.tightness", "eggbox/tree.partsOf"], apart := false, laid := [("eggbox/tree.partsOf", laid_eggbox_tree_partsOf), ("eggbox/syntax.tightness", laid_eggbox_syntax_tightness)], narrowed := true }
def SyntaxMoreUptoSaid : Prop := syntaxMoreUptoRow.holds Tryd.pinned (OpenSpec.upto syntaxMoreSpec)

end Rows
end Go.Proofs.YtjonlmafhijcoaaDoor
