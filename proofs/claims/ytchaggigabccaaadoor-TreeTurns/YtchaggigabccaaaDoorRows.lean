/-
  NARROWER THAN 'FOR EVERY INPUT', by the rows' own cells (each row's printed sentence says how): TreeChecks: laid · TreeParts: laid · TreeJoins: laid · TreeOrders: laid · TreeTurns: laid · TreeBack: laid.
  DERIVED. THE GIVEN ROWS OF THIS SEAT. 6 by the template 'for every input the law returns true; each argument reads behind the call as it read before'; 0 by the template 'total and deterministic' (their statements: YtchaggigabccaaaDoorTotals.lean).
  GIVEN WITH THE SEED: the statements are not yours to turn. If you find one false, say at which input.
  Laid BY PROGRAM, IN A SANDBOX (cutbox-rows.mjs): the forced cells as the released guide's own fill.sh prints them over the translation 6b5c84b6b8e093e1… (all of the seat's roots in one cut). By AI agents, Wed Nov 11 2026. No macro, syntax, notation, axiom, sorry.
-/
import Derived.Test.YtchaggigabccaaaDoorChecked
import GoSem.Claim
import GoSem.ClaimJoined
import GoSem.ClaimMapViews
import Derived.JoinedTies
import Derived.KernelRfl
namespace Go.Proofs.YtchaggigabccaaaDoor
/- THE CELL 'sum', in the pinned program and in every row, IS THE sha256 OF THE DUMP (.gsa) THAT YtchaggigabccaaaDoorProg.lean LOADS. Nothing in Lean hashes anything: it is a label: what it is worth is what the hold of that sum in a sandbox is worth. -/
noncomputable def Tryd.pinned : Pinned := { name := "ytchaggigabccaaadoor", sum := "6b5c84b6b8e093e1e462035cc8c6d84eaa8870a8e95e1e357c258b2ad178838f", checked := Tryd.checked }
namespace Rows
def none {H : Type} : Left H := { results := [], args := [] }

/- WHAT THE LISTED PACKAGE-LEVEL VARIABLES READ AS WHEN THE CALL BEGINS. Each datum BY PROGRAM (the guide's laid-datum.mjs) off the statement by which the dump's own 'gosem.cut.vars' lays the variable. In a bare row this is a premise. The card (YtchaggigabccaaaDoorCards.lean) ties it to the program's text. -/
def laid_eggbox_tree_partsOf {H : Type} : DataW H := .agg [.lit (.int .i64 0), .lit (.int .i64 0), .lit (.int .i64 0), .lit (.int .i64 0), .lit (.int .i64 0), .lit (.int .i64 2), .lit (.int .i64 2), .lit (.int .i64 2), .lit (.int .i64 1), .lit (.int .i64 1)]

/-- 'eggboxlaw03.TreeChecks': WHATEVER THE INPUT: true; the input reads as it did. -/
def treeChecksSpec : ChangeSpec := { name := "treeChecks", fn := fun _ => fun
  | [d1, d2] => { results := [.lit (.bool true)], args := [d1, d2] }
  | _ => none }
def treeChecksRow : OpenClaim := { program := "ytchaggigabccaaadoor", sum := "6b5c84b6b8e093e1e462035cc8c6d84eaa8870a8e95e1e357c258b2ad178838f", func := "eggbox/eggboxlaw03.TreeChecks", spec := "treeChecks", unfollowed := true, recurses := true, named := ["eggbox/tree.partsOf"], apart := false, laid := [("eggbox/tree.partsOf", laid_eggbox_tree_partsOf)] }
def TreeChecksSaid : Prop := treeChecksRow.holds Tryd.pinned (OpenSpec.ofChange treeChecksSpec)

/-- ITS FALSE NEIGHBOUR: 'it returns false'. Refute it at one input. -/
def treeChecksWrong : ChangeSpec := { name := "treeChecks", fn := fun _ => fun
  | [d1, d2] => { results := [.lit (.bool false)], args := [d1, d2] }
  | _ => none }
def TreeChecksWrongFalsely : Prop := treeChecksRow.holds Tryd.pinned (OpenSpec.ofChange treeChecksWrong)

/-- 'eggboxlaw03.TreeParts': WHATEVER THE INPUT: true; the input reads as it did. -/
def treePartsSpec : ChangeSpec := { name := "treeParts", fn := fun _ => fun
  | [d] => { results := [.lit (.bool true)], args := [d] }
  | _ => none }
def treePartsRow : OpenClaim := { program := "ytchaggigabccaaadoor", sum := "6b5c84b6b8e093e1e462035cc8c6d84eaa8870a8e95e1e357c258b2ad178838f", func := "eggbox/eggboxlaw03.TreeParts", spec := "treeParts", unfollowed := true, recurses := true, named := ["eggbox/tree.partsOf"], apart := false, laid := [("eggbox/tree.partsOf", laid_eggbox_tree_partsOf)] }
def TreePartsSaid : Prop := treePartsRow.holds Tryd.pinned (OpenSpec.ofChange treePartsSpec)

/-- ITS FALSE NEIGHBOUR: 'it returns false'. Refute it at one input. -/
def treePartsWrong : ChangeSpec := { name := "treeParts", fn := fun _ => fun
  | [d] => { results := [.lit (.bool false)], args := [d] }
  | _ => none }
def TreePartsWrongFalsely : Prop := treePartsRow.holds Tryd.pinned (OpenSpec.ofChange treePartsWrong)

/-- 'eggboxlaw03.TreeJoins': WHATEVER THE INPUT: true; the input reads as it did. -/
def treeJoinsSpec : ChangeSpec := { name := "treeJoins", fn := fun _ => fun
  | [d1, d2] => { results := [.lit (.bool true)], args := [d1, d2] }
  | _ => none }
def treeJoinsRow : OpenClaim := { program := "ytchaggigabccaaadoor", sum := "6b5c84b6b8e093e1e462035cc8c6d84eaa8870a8e95e1e357c258b2ad178838f", func := "eggbox/eggboxlaw03.TreeJoins", spec := "treeJoins", unfollowed := true, recurses := true, named := ["eggbox/tree.partsOf"], apart := false, laid := [("eggbox/tree.partsOf", laid_eggbox_tree_partsOf)] }
def TreeJoinsSaid : Prop := treeJoinsRow.holds Tryd.pinned (OpenSpec.ofChange treeJoinsSpec)

/-- ITS FALSE NEIGHBOUR: 'it returns false'. Refute it at one input. -/
def treeJoinsWrong : ChangeSpec := { name := "treeJoins", fn := fun _ => fun
  | [d1, d2] => { results := [.lit (.bool false)], args := [d1, d2] }
  | _ => none }
def TreeJoinsWrongFalsely : Prop := treeJoinsRow.holds Tryd.pinned (OpenSpec.ofChange treeJoinsWrong)

/-- 'eggboxlaw03.TreeOrders': WHATEVER THE INPUT: true; the input reads as it did. -/
def treeOrdersSpec : ChangeSpec := { name := "treeOrders", fn := fun _ => fun
  | [d1, d2] => { results := [.lit (.bool true)], args := [d1, d2] }
  | _ => none }
def treeOrdersRow : OpenClaim := { program := "ytchaggigabccaaadoor", sum := "6b5c84b6b8e093e1e462035cc8c6d84eaa8870a8e95e1e357c258b2ad178838f", func := "eggbox/eggboxlaw03.TreeOrders", spec := "treeOrders", unfollowed := true, recurses := true, named := ["eggbox/tree.partsOf"], apart := false, laid := [("eggbox/tree.partsOf", laid_eggbox_tree_partsOf)] }
def TreeOrdersSaid : Prop := treeOrdersRow.holds Tryd.pinned (OpenSpec.ofChange treeOrdersSpec)

/-- ITS FALSE NEIGHBOUR: 'it returns false'. Refute it at one input. -/
def treeOrdersWrong : ChangeSpec := { name := "treeOrders", fn := fun _ => fun
  | [d1, d2] => { results := [.lit (.bool false)], args := [d1, d2] }
  | _ => none }
def TreeOrdersWrongFalsely : Prop := treeOrdersRow.holds Tryd.pinned (OpenSpec.ofChange treeOrdersWrong)

/-- 'eggboxlaw03.TreeTurns': WHATEVER THE INPUT: true; the input reads as it did. -/
def treeTurnsSpec : ChangeSpec := { name := "treeTurns", fn := fun _ => fun
  | [d1, d2] => { results := [.lit (.bool true)], args := [d1, d2] }
  | _ => none }
def treeTurnsRow : OpenClaim := { program := "ytchaggigabccaaadoor", sum := "6b5c84b6b8e093e1e462035cc8c6d84eaa8870a8e95e1e357c258b2ad178838f", func := "eggbox/eggboxlaw03.TreeTurns", spec := "treeTurns", unfollowed := true, recurses := true, named := ["eggbox/tree.partsOf"], apart := false, laid := [("eggbox/tree.partsOf", laid_eggbox_tree_partsOf)] }
def TreeTurnsSaid : Prop := treeTurnsRow.holds Tryd.pinned (OpenSpec.ofChange treeTurnsSpec)

/-- ITS FALSE NEIGHBOUR: 'it returns false'. Refute it at one input. -/
def treeTurnsWrong : ChangeSpec := { name := "treeTurns", fn := fun _ => fun
  | [d1, d2] => { results := [.lit (.bool false)], args := [d1, d2] }
  | _ => none }
def TreeTurnsWrongFalsely : Prop := treeTurnsRow.holds Tryd.pinned (OpenSpec.ofChange treeTurnsWrong)

/-- 'eggboxlaw03.TreeBack': WHATEVER THE INPUT: true; the input reads as it did. -/
def treeBackSpec : ChangeSpec := { name := "treeBack", fn := fun _ => fun
  | [d] => { results := [.lit (.bool true)], args := [d] }
  | _ => none }
def treeBackRow : OpenClaim := { program := "ytchaggigabccaaadoor", sum := "6b5c84b6b8e093e1e462035cc8c6d84eaa8870a8e95e1e357c258b2ad178838f", func := "eggbox/eggboxlaw03.TreeBack", spec := "treeBack", unfollowed := true, recurses := true, named := ["eggbox/tree.partsOf"], apart := false, laid := [("eggbox/tree.partsOf", laid_eggbox_tree_partsOf)] }
def TreeBackSaid : Prop := treeBackRow.holds Tryd.pinned (OpenSpec.ofChange treeBackSpec)

/-- ITS FALSE NEIGHBOUR: 'it returns false'. Refute it at one input. -/
def treeBackWrong : ChangeSpec := { name := "treeBack", fn := fun _ => fun
  | [d] => { results := [.lit (.bool false)], args := [d] }
  | _ => none }
def TreeBackWrongFalsely : Prop := treeBackRow.holds Tryd.pinned (OpenSpec.ofChange treeBackWrong)

/- THE SECOND FORM. 'bulk': how many values and letters a reading holds, each counted each time it is reached (what is shared counts as often as it is met; a slice's spare places count too). A statement '..UptoSaid' is the law's where the arguments, and the package variables that the reading takes, are together of bulk at most 1048576: NARROWER than '..Said'. Prove '..Said' where nothing that the law and all that it calls make is longer than what came in: it says more and counts as full. Else prove '..UptoSaid'. A law counts once. -/
mutual
def uptoBulk {H : Type} : DataW H → Nat
  | .lit (.string bytes) => bytes.length + 1
  | .lit _ => 1
  | .nil => 1
  | .ptr d => uptoBulk d + 1
  | .slice elems spare => uptoBulkAll elems + uptoBulkAll spare + 1
  | .agg parts => uptoBulkAll parts + 1
  | .iface _ d => uptoBulk d + 1
  | .map entries => uptoBulkEntries entries + 1
  | .held _ => 1
def uptoBulkAll {H : Type} : List (DataW H) → Nat
  | [] => 0
  | d :: r => uptoBulk d + uptoBulkAll r
def uptoBulkEntries {H : Type} : List (Lit × DataW H) → Nat
  | [] => 0
  | x :: r => uptoBulkEntry x + uptoBulkEntries r
def uptoBulkEntry {H : Type} : Lit × DataW H → Nat
  | (.string bytes, d) => bytes.length + uptoBulk d + 1
  | (_, d) => uptoBulk d + 1
 end
def uptoSmall : (H : Type) → List (DataW H) → Bool := fun _ ds => decide (uptoBulkAll ds ≤ 1048576)
def OpenSpec.upto (s : _root_.Go.ChangeSpec) : _root_.Go.OpenSpec := { _root_.Go.OpenSpec.ofChange s with cond := some uptoSmall }

/-- 'eggboxlaw03.TreeChecks', WHERE WHAT IT READS IS OF BULK AT MOST 1048576: true; the input reads as it did. -/
def treeChecksUptoRow : OpenClaim := { program := "ytchaggigabccaaadoor", sum := "6b5c84b6b8e093e1e462035cc8c6d84eaa8870a8e95e1e357c258b2ad178838f", func := "eggbox/eggboxlaw03.TreeChecks", spec := "treeChecks", unfollowed := true, recurses := true, named := ["eggbox/tree.partsOf"], apart := false, laid := [("eggbox/tree.partsOf", laid_eggbox_tree_partsOf)], narrowed := true }
def TreeChecksUptoSaid : Prop := treeChecksUptoRow.holds Tryd.pinned (OpenSpec.upto treeChecksSpec)

/-- 'eggboxlaw03.TreeParts', WHERE WHAT IT READS IS OF BULK AT MOST 1048576: true; the input reads as it did. -/
def treePartsUptoRow : OpenClaim := { program := "ytchaggigabccaaadoor", sum := "6b5c84b6b8e093e1e462035cc8c6d84eaa8870a8e95e1e357c258b2ad178838f", func := "eggbox/eggboxlaw03.TreeParts", spec := "treeParts", unfollowed := true, recurses := true, named := ["eggbox/tree.partsOf"], apart := false, laid := [("eggbox/tree.partsOf", laid_eggbox_tree_partsOf)], narrowed := true }
def TreePartsUptoSaid : Prop := treePartsUptoRow.holds Tryd.pinned (OpenSpec.upto treePartsSpec)

/-- 'eggboxlaw03.TreeJoins', WHERE WHAT IT READS IS OF BULK AT MOST 1048576: true; the input reads as it did. -/
def treeJoinsUptoRow : OpenClaim := { program := "ytchaggigabccaaadoor", sum := "6b5c84b6b8e093e1e462035cc8c6d84eaa8870a8e95e1e357c258b2ad178838f", func := "eggbox/eggboxlaw03.TreeJoins", spec := "treeJoins", unfollowed := true, recurses := true, named := ["eggbox/tree.partsOf"], apart := false, laid := [("eggbox/tree.partsOf", laid_eggbox_tree_partsOf)], narrowed := true }
def TreeJoinsUptoSaid : Prop := treeJoinsUptoRow.holds Tryd.pinned (OpenSpec.upto treeJoinsSpec)

/-- 'eggboxlaw03.TreeOrders', WHERE WHAT IT READS IS OF BULK AT MOST 1048576: true; the input reads as it did. -/
def treeOrdersUptoRow : OpenClaim := { program := "ytchaggigabccaaadoor", sum := "6b5c84b6b8e093e1e462035cc8c6d84eaa8870a8e95e1e357c258b2ad178838f", func := "eggbox/eggboxlaw03.TreeOrders", spec := "treeOrders", unfollowed := true, recurses := true, named := ["eggbox/tree.partsOf"], apart := false, laid := [("eggbox/tree.partsOf", laid_eggbox_tree_partsOf)], narrowed := true }
def TreeOrdersUptoSaid : Prop := treeOrdersUptoRow.holds Tryd.pinned (OpenSpec.upto treeOrdersSpec)

/-- 'eggboxlaw03.TreeTurns', WHERE WHAT IT READS IS OF BULK AT MOST 1048576: true; the input reads as it did. -/
def treeTurnsUptoRow : OpenClaim := { program := "ytchaggigabccaaadoor", sum := "6b5c84b6b8e093e1e462035cc8c6d84eaa8870a8e95e1e357c258b2ad178838f", func := "eggbox/eggboxlaw03.TreeTurns", spec := "treeTurns", unfollowed := true, recurses := true, named := ["eggbox/tree.partsOf"], apart := false, laid := [("eggbox/tree.partsOf", laid_eggbox_tree_partsOf)], narrowed := true }
def TreeTurnsUptoSaid : Prop := treeTurnsUptoRow.holds Tryd.pinned (OpenSpec.upto treeTurnsSpec)

/-- 'eggboxlaw03.TreeBack', WHERE WHAT IT READS IS OF BULK AT MOST 1048576: true; the input reads as it did. -/
def treeBackUptoRow : OpenClaim := { program := "ytchaggigabccaaadoor", sum := "6b5c84b6b8e093e1e462035cc8c6d84eaa8870a8e95e1e357c258b2ad178838f", func := "eggbox/eggboxlaw03.TreeBack", spec := "treeBack", unfollowed := true, recurses := true, named := ["eggbox/tree.partsOf"], apart := false, laid := [("eggbox/tree.partsOf", laid_eggbox_tree_partsOf)], narrowed := true }
def TreeBackUptoSaid : Prop := treeBackUptoRow.holds Tryd.pinned (OpenSpec.upto treeBackSpec)

end Rows
end Go.Proofs.YtchaggigabccaaaDoor
