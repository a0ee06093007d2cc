/-
  NARROWER THAN 'FOR EVERY INPUT', by the rows' own cells (each row's printed sentence says how): TreeReversed: laid · TreeOrder: laid.
  DERIVED. THE GIVEN ROWS OF THIS SEAT. 2 by the template 'for every input the law returns true; each argument reads behind the call as it read before'; 0 by the template 'total and deterministic' (their statements: YtchaggigabccaabDoorTotals.lean).
  GIVEN WITH THE SEED: the statements are not yours to turn. If you find one false, say at which input.
  Laid BY PROGRAM, IN A SANDBOX (cutbox-rows.mjs): the forced cells as the released guide's own fill.sh prints them over the translation 09f6b57ef93d5b0c… (all of the seat's roots in one cut). By AI agents, Wed Nov 11 2026. No macro, syntax, notation, axiom, sorry.
-/
import Derived.Test.YtchaggigabccaabDoorChecked
import GoSem.Claim
import GoSem.ClaimJoined
import GoSem.ClaimMapViews
import Derived.JoinedTies
import Derived.KernelRfl
namespace Go.Proofs.YtchaggigabccaabDoor
/- THE CELL 'sum', in the pinned program and in every row, IS THE sha256 OF THE DUMP (.gsa) THAT YtchaggigabccaabDoorProg.lean LOADS. Nothing in Lean hashes anything: it is a label: what it is worth is what the hold of that sum in a sandbox is worth. -/
noncomputable def Tryd.pinned : Pinned := { name := "ytchaggigabccaabdoor", sum := "09f6b57ef93d5b0c5c6e1fae0ce10ef2a1b63a1f13c8f7fa67275b3346aca150", checked := Tryd.checked }
namespace Rows
def none {H : Type} : Left H := { results := [], args := [] }

/- WHAT THE LISTED PACKAGE-LEVEL VARIABLES READ AS WHEN THE CALL BEGINS. Each datum BY PROGRAM (the guide's laid-datum.mjs) off the statement by which the dump's own 'gosem.cut.vars' lays the variable. In a bare row this is a premise. The card (YtchaggigabccaabDoorCards.lean) ties it to the program's text. -/
def laid_eggbox_tree_partsOf {H : Type} : DataW H := .agg [.lit (.int .i64 0), .lit (.int .i64 0), .lit (.int .i64 0), .lit (.int .i64 0), .lit (.int .i64 0), .lit (.int .i64 2), .lit (.int .i64 2), .lit (.int .i64 2), .lit (.int .i64 1), .lit (.int .i64 1)]

/-- 'eggboxlaw03.TreeReversed': WHATEVER THE INPUT: true; the input reads as it did. -/
def treeReversedSpec : ChangeSpec := { name := "treeReversed", fn := fun _ => fun
  | [d1, d2, d3] => { results := [.lit (.bool true)], args := [d1, d2, d3] }
  | _ => none }
def treeReversedRow : OpenClaim := { program := "ytchaggigabccaabdoor", sum := "09f6b57ef93d5b0c5c6e1fae0ce10ef2a1b63a1f13c8f7fa67275b3346aca150", func := "eggbox/eggboxlaw03.TreeReversed", spec := "treeReversed", unfollowed := true, recurses := true, named := ["eggbox/tree.partsOf"], apart := false, laid := [("eggbox/tree.partsOf", laid_eggbox_tree_partsOf)] }
def TreeReversedSaid : Prop := treeReversedRow.holds Tryd.pinned (OpenSpec.ofChange treeReversedSpec)

/-- ITS FALSE NEIGHBOUR: 'it returns false'. Refute it at one input. -/
def treeReversedWrong : ChangeSpec := { name := "treeReversed", fn := fun _ => fun
  | [d1, d2, d3] => { results := [.lit (.bool false)], args := [d1, d2, d3] }
  | _ => none }
def TreeReversedWrongFalsely : Prop := treeReversedRow.holds Tryd.pinned (OpenSpec.ofChange treeReversedWrong)

/-- 'eggboxlaw03.TreeOrder': WHATEVER THE INPUT: true; the input reads as it did. -/
def treeOrderSpec : ChangeSpec := { name := "treeOrder", fn := fun _ => fun
  | [d1, d2, d3] => { results := [.lit (.bool true)], args := [d1, d2, d3] }
  | _ => none }
def treeOrderRow : OpenClaim := { program := "ytchaggigabccaabdoor", sum := "09f6b57ef93d5b0c5c6e1fae0ce10ef2a1b63a1f13c8f7fa67275b3346aca150", func := "eggbox/eggboxlaw03.TreeOrder", spec := "treeOrder", unfollowed := true, recurses := true, named := ["eggbox/tree.partsOf"], apart := false, laid := [("eggbox/tree.partsOf", laid_eggbox_tree_partsOf)] }
def TreeOrderSaid : Prop := treeOrderRow.holds Tryd.pinned (OpenSpec.ofChange treeOrderSpec)

/-- ITS FALSE NEIGHBOUR: 'it returns false'. Refute it at one input. -/
def treeOrderWrong : ChangeSpec := { name := "treeOrder", fn := fun _ => fun
  | [d1, d2, d3] => { results := [.lit (.bool false)], args := [d1, d2, d3] }
  | _ => none }
def TreeOrderWrongFalsely : Prop := treeOrderRow.holds Tryd.pinned (OpenSpec.ofChange treeOrderWrong)

/- THE SECOND FORM. 'bulk': how many values and letters a reading holds, each counted each time it is reached (what is shared counts as often as it is met; a slice's spare places count too). A statement '..UptoSaid' is the law's where the arguments, and the package variables that the reading takes, are together of bulk at most 1048576: NARROWER than '..Said'. Prove '..Said' where nothing that the law and all that it calls make is longer than what came in: it says more and counts as full. Else prove '..UptoSaid'. A law counts once. -/
mutual
def uptoBulk {H : Type} : DataW H → Nat
  | .lit (.string bytes) => bytes.length + 1
  | .lit _ => 1
  | .nil => 1
  | .ptr d => uptoBulk d + 1
  | .slice elems spare => uptoBulkAll elems + uptoBulkAll spare + 1
  | .agg parts => uptoBulkAll parts + 1
  | .iface _ d => uptoBulk d + 1
  | .map entries => uptoBulkEntries entries + 1
  | .held _ => 1
def uptoBulkAll {H : Type} : List (DataW H) → Nat
  | [] => 0
  | d :: r => uptoBulk d + uptoBulkAll r
def uptoBulkEntries {H : Type} : List (Lit × DataW H) → Nat
  | [] => 0
  | x :: r => uptoBulkEntry x + uptoBulkEntries r
def uptoBulkEntry {H : Type} : Lit × DataW H → Nat
  | (.string bytes, d) => bytes.length + uptoBulk d + 1
  | (_, d) => uptoBulk d + 1
 end
def uptoSmall : (H : Type) → List (DataW H) → Bool := fun _ ds => decide (uptoBulkAll ds ≤ 1048576)
def OpenSpec.upto (s : _root_.Go.ChangeSpec) : _root_.Go.OpenSpec := { _root_.Go.OpenSpec.ofChange s with cond := some uptoSmall }

/-- 'eggboxlaw03.TreeReversed', WHERE WHAT IT READS IS OF BULK AT MOST 1048576: true; the input reads as it did. -/
def treeReversedUptoRow : OpenClaim := { program := "ytchaggigabccaabdoor", sum := "09f6b57ef93d5b0c5c6e1fae0ce10ef2a1b63a1f13c8f7fa67275b3346aca150", func := "eggbox/eggboxlaw03.TreeReversed", spec := "treeReversed", unfollowed := true, recurses := true, named := ["eggbox/tree.partsOf"], apart := false, laid := [("eggbox/tree.partsOf", laid_eggbox_tree_partsOf)], narrowed := true }
def TreeReversedUptoSaid : Prop := treeReversedUptoRow.holds Tryd.pinned (OpenSpec.upto treeReversedSpec)

/-- 'eggboxlaw03.TreeOrder', WHERE WHAT IT READS IS OF BULK AT MOST 1048576: true; the input reads as it did. -/
def treeOrderUptoRow : OpenClaim := { program := "ytchaggigabccaabdoor", sum := "09f6b57ef93d5b0c5c6e1fae0ce10ef2a1b63a1f13c8f7fa67275b3346aca150", func := "eggbox/eggboxlaw03.TreeOrder", spec := "treeOrder", unfollowed := true, recurses := true, named := ["eggbox/tree.partsOf"], apart := false, laid := [("eggbox/tree.partsOf", laid_eggbox_tree_partsOf)], narrowed := true }
def TreeOrderUptoSaid : Prop := treeOrderUptoRow.holds Tryd.pinned (OpenSpec.upto treeOrderSpec)

end Rows
end Go.Proofs.YtchaggigabccaabDoor
