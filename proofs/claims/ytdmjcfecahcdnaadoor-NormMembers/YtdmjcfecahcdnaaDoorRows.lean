/-
  NARROWER THAN 'FOR EVERY INPUT', by the rows' own cells (each row's printed sentence says how): NormForms: laid · NormJoins: laid · NormOnes: laid · NormMembers: laid · NormOnce: laid · NormLaws: laid.
  DERIVED. THE GIVEN ROWS OF THIS SEAT. 6 by the template 'for every input the law returns true; each argument reads behind the call as it read before'; 0 by the template 'total and deterministic' (their statements: YtdmjcfecahcdnaaDoorTotals.lean).
  GIVEN WITH THE SEED: the statements are not yours to turn. If you find one false, say at which input.
  Laid BY PROGRAM, IN A SANDBOX (cutbox-rows.mjs): the forced cells as the released guide's own fill.sh prints them over the translation 1dd2658f896e4c55… (all of the seat's roots in one cut). By AI agents, Wed Nov 11 2026. No macro, syntax, notation, axiom, sorry.
-/
import Derived.Test.YtdmjcfecahcdnaaDoorChecked
import GoSem.Claim
import GoSem.ClaimJoined
import GoSem.ClaimMapViews
import Derived.JoinedTies
import Derived.KernelRfl
namespace Go.Proofs.YtdmjcfecahcdnaaDoor
/- THE CELL 'sum', in the pinned program and in every row, IS THE sha256 OF THE DUMP (.gsa) THAT YtdmjcfecahcdnaaDoorProg.lean LOADS. Nothing in Lean hashes anything: it is a label: what it is worth is what the hold of that sum in a sandbox is worth. -/
noncomputable def Tryd.pinned : Pinned := { name := "ytdmjcfecahcdnaadoor", sum := "1dd2658f896e4c550777dfb86dcc14775a97674dbac37568f2cd7f4944ab08de", checked := Tryd.checked }
namespace Rows
def none {H : Type} : Left H := { results := [], args := [] }

/- WHAT THE LISTED PACKAGE-LEVEL VARIABLES READ AS WHEN THE CALL BEGINS. Each datum BY PROGRAM (the guide's laid-datum.mjs) off the statement by which the dump's own 'gosem.cut.vars' lays the variable. In a bare row this is a premise. The card (YtdmjcfecahcdnaaDoorCards.lean) ties it to the program's text. -/
def laid_eggbox_tree_partsOf {H : Type} : DataW H := .agg [.lit (.int .i64 0), .lit (.int .i64 0), .lit (.int .i64 0), .lit (.int .i64 0), .lit (.int .i64 0), .lit (.int .i64 2), .lit (.int .i64 2), .lit (.int .i64 2), .lit (.int .i64 1), .lit (.int .i64 1)]

/-- 'eggboxlaw05.NormForms': WHATEVER THE INPUT: true; the input reads as it did. -/
def normFormsSpec : ChangeSpec := { name := "normForms", fn := fun _ => fun
  | [d] => { results := [.lit (.bool true)], args := [d] }
  | _ => none }
def normFormsRow : OpenClaim := { program := "ytdmjcfecahcdnaadoor", sum := "1dd2658f896e4c550777dfb86dcc14775a97674dbac37568f2cd7f4944ab08de", func := "eggbox/eggboxlaw05.NormForms", spec := "normForms", unfollowed := true, recurses := true, named := ["eggbox/tree.partsOf"], apart := false, laid := [("eggbox/tree.partsOf", laid_eggbox_tree_partsOf)] }
def NormFormsSaid : Prop := normFormsRow.holds Tryd.pinned (OpenSpec.ofChange normFormsSpec)

/-- ITS FALSE NEIGHBOUR: 'it returns false'. Refute it at one input. -/
def normFormsWrong : ChangeSpec := { name := "normForms", fn := fun _ => fun
  | [d] => { results := [.lit (.bool false)], args := [d] }
  | _ => none }
def NormFormsWrongFalsely : Prop := normFormsRow.holds Tryd.pinned (OpenSpec.ofChange normFormsWrong)

/-- 'eggboxlaw05.NormJoins': WHATEVER THE INPUT: true; the input reads as it did. -/
def normJoinsSpec : ChangeSpec := { name := "normJoins", fn := fun _ => fun
  | [d1, d2] => { results := [.lit (.bool true)], args := [d1, d2] }
  | _ => none }
def normJoinsRow : OpenClaim := { program := "ytdmjcfecahcdnaadoor", sum := "1dd2658f896e4c550777dfb86dcc14775a97674dbac37568f2cd7f4944ab08de", func := "eggbox/eggboxlaw05.NormJoins", spec := "normJoins", unfollowed := true, recurses := true, named := ["eggbox/tree.partsOf"], apart := false, laid := [("eggbox/tree.partsOf", laid_eggbox_tree_partsOf)] }
def NormJoinsSaid : Prop := normJoinsRow.holds Tryd.pinned (OpenSpec.ofChange normJoinsSpec)

/-- ITS FALSE NEIGHBOUR: 'it returns false'. Refute it at one input. -/
def normJoinsWrong : ChangeSpec := { name := "normJoins", fn := fun _ => fun
  | [d1, d2] => { results := [.lit (.bool false)], args := [d1, d2] }
  | _ => none }
def NormJoinsWrongFalsely : Prop := normJoinsRow.holds Tryd.pinned (OpenSpec.ofChange normJoinsWrong)

/-- 'eggboxlaw05.NormOnes': WHATEVER THE INPUT: true; the input reads as it did. -/
def normOnesSpec : ChangeSpec := { name := "normOnes", fn := fun _ => fun
  | [d] => { results := [.lit (.bool true)], args := [d] }
  | _ => none }
def normOnesRow : OpenClaim := { program := "ytdmjcfecahcdnaadoor", sum := "1dd2658f896e4c550777dfb86dcc14775a97674dbac37568f2cd7f4944ab08de", func := "eggbox/eggboxlaw05.NormOnes", spec := "normOnes", unfollowed := true, recurses := true, named := ["eggbox/tree.partsOf"], apart := false, laid := [("eggbox/tree.partsOf", laid_eggbox_tree_partsOf)] }
def NormOnesSaid : Prop := normOnesRow.holds Tryd.pinned (OpenSpec.ofChange normOnesSpec)

/-- ITS FALSE NEIGHBOUR: 'it returns false'. Refute it at one input. -/
def normOnesWrong : ChangeSpec := { name := "normOnes", fn := fun _ => fun
  | [d] => { results := [.lit (.bool false)], args := [d] }
  | _ => none }
def NormOnesWrongFalsely : Prop := normOnesRow.holds Tryd.pinned (OpenSpec.ofChange normOnesWrong)

/-- 'eggboxlaw05.NormMembers': WHATEVER THE INPUT: true; the input reads as it did. -/
def normMembersSpec : ChangeSpec := { name := "normMembers", fn := fun _ => fun
  | [d1, d2] => { results := [.lit (.bool true)], args := [d1, d2] }
  | _ => none }
def normMembersRow : OpenClaim := { program := "ytdmjcfecahcdnaadoor", sum := "1dd2658f896e4c550777dfb86dcc14775a97674dbac37568f2cd7f4944ab08de", func := "eggbox/eggboxlaw05.NormMembers", spec := "normMembers", unfollowed := true, recurses := true, named := ["eggbox/tree.partsOf"], apart := false, laid := [("eggbox/tree.partsOf", laid_eggbox_tree_partsOf)] }
def NormMembersSaid : Prop := normMembersRow.holds Tryd.pinned (OpenSpec.ofChange normMembersSpec)

/-- ITS FALSE NEIGHBOUR: 'it returns false'. Refute it at one input. -/
def normMembersWrong : ChangeSpec := { name := "normMembers", fn := fun _ => fun
  | [d1, d2] => { results := [.lit (.bool false)], args := [d1, d2] }
  | _ => none }
def NormMembersWrongFalsely : Prop := normMembersRow.holds Tryd.pinned (OpenSpec.ofChange normMembersWrong)

/-- 'eggboxlaw05.NormOnce': WHATEVER THE INPUT: true; the input reads as it did. -/
def normOnceSpec : ChangeSpec := { name := "normOnce", fn := fun _ => fun
  | [d] => { results := [.lit (.bool true)], args := [d] }
  | _ => none }
def normOnceRow : OpenClaim := { program := "ytdmjcfecahcdnaadoor", sum := "1dd2658f896e4c550777dfb86dcc14775a97674dbac37568f2cd7f4944ab08de", func := "eggbox/eggboxlaw05.NormOnce", spec := "normOnce", unfollowed := true, recurses := true, named := ["eggbox/tree.partsOf"], apart := false, laid := [("eggbox/tree.partsOf", laid_eggbox_tree_partsOf)] }
def NormOnceSaid : Prop := normOnceRow.holds Tryd.pinned (OpenSpec.ofChange normOnceSpec)

/-- ITS FALSE NEIGHBOUR: 'it returns false'. Refute it at one input. -/
def normOnceWrong : ChangeSpec := { name := "normOnce", fn := fun _ => fun
  | [d] => { results := [.lit (.bool false)], args := [d] }
  | _ => none }
def NormOnceWrongFalsely : Prop := normOnceRow.holds Tryd.pinned (OpenSpec.ofChange normOnceWrong)

/-- 'eggboxlaw05.NormLaws': WHATEVER THE INPUT: true; the input reads as it did. -/
def normLawsSpec : ChangeSpec := { name := "normLaws", fn := fun _ => fun
  | [d1, d2, d3] => { results := [.lit (.bool true)], args := [d1, d2, d3] }
  | _ => none }
def normLawsRow : OpenClaim := { program := "ytdmjcfecahcdnaadoor", sum := "1dd2658f896e4c550777dfb86dcc14775a97674dbac37568f2cd7f4944ab08de", func := "eggbox/eggboxlaw05.NormLaws", spec := "normLaws", unfollowed := true, recurses := true, named := ["eggbox/tree.partsOf"], apart := false, laid := [("eggbox/tree.partsOf", laid_eggbox_tree_partsOf)] }
def NormLawsSaid : Prop := normLawsRow.holds Tryd.pinned (OpenSpec.ofChange normLawsSpec)

/-- ITS FALSE NEIGHBOUR: 'it returns false'. Refute it at one input. -/
def normLawsWrong : ChangeSpec := { name := "normLaws", fn := fun _ => fun
  | [d1, d2, d3] => { results := [.lit (.bool false)], args := [d1, d2, d3] }
  | _ => none }
def NormLawsWrongFalsely : Prop := normLawsRow.holds Tryd.pinned (OpenSpec.ofChange normLawsWrong)

/- THE SECOND FORM. 'bulk': how many values and letters a reading holds, each counted each time it is reached (what is shared counts as often as it is met; a slice's spare places count too). A statement '..UptoSaid' is the law's where the arguments, and the package variables that the reading takes, are together of bulk at most 1048576: NARROWER than '..Said'. Prove '..Said' where nothing that the law and all that it calls make is longer than what came in: it says more and counts as full. Else prove '..UptoSaid'. A law counts once. -/
mutual
def uptoBulk {H : Type} : DataW H → Nat
  | .lit (.string bytes) => bytes.length + 1
  | .lit _ => 1
  | .nil => 1
  | .ptr d => uptoBulk d + 1
  | .slice elems spare => uptoBulkAll elems + uptoBulkAll spare + 1
  | .agg parts => uptoBulkAll parts + 1
  | .iface _ d => uptoBulk d + 1
  | .map entries => uptoBulkEntries entries + 1
  | .held _ => 1
def uptoBulkAll {H : Type} : List (DataW H) → Nat
  | [] => 0
  | d :: r => uptoBulk d + uptoBulkAll r
def uptoBulkEntries {H : Type} : List (Lit × DataW H) → Nat
  | [] => 0
  | x :: r => uptoBulkEntry x + uptoBulkEntries r
def uptoBulkEntry {H : Type} : Lit × DataW H → Nat
  | (.string bytes, d) => bytes.length + uptoBulk d + 1
  | (_, d) => uptoBulk d + 1
 end
def uptoSmall : (H : Type) → List (DataW H) → Bool := fun _ ds => decide (uptoBulkAll ds ≤ 1048576)
def OpenSpec.upto (s : _root_.Go.ChangeSpec) : _root_.Go.OpenSpec := { _root_.Go.OpenSpec.ofChange s with cond := some uptoSmall }

/-- 'eggboxlaw05.NormForms', WHERE WHAT IT READS IS OF BULK AT MOST 1048576: true; the input reads as it did. -/
def normFormsUptoRow : OpenClaim := { program := "ytdmjcfecahcdnaadoor", sum := "1dd2658f896e4c550777dfb86dcc14775a97674dbac37568f2cd7f4944ab08de", func := "eggbox/eggboxlaw05.NormForms", spec := "normForms", unfollowed := true, recurses := true, named := ["eggbox/tree.partsOf"], apart := false, laid := [("eggbox/tree.partsOf", laid_eggbox_tree_partsOf)], narrowed := true }
def NormFormsUptoSaid : Prop := normFormsUptoRow.holds Tryd.pinned (OpenSpec.upto normFormsSpec)

/-- 'eggboxlaw05.NormJoins', WHERE WHAT IT READS IS OF BULK AT MOST 1048576: true; the input reads as it did. -/
def normJoinsUptoRow : OpenClaim := { program := "ytdmjcfecahcdnaadoor", sum := "1dd2658f896e4c550777dfb86dcc14775a97674dbac37568f2cd7f4944ab08de", func := "eggbox/eggboxlaw05.NormJoins", spec := "normJoins", unfollowed := true, recurses := true, named := ["eggbox/tree.partsOf"], apart := false, laid := [("eggbox/tree.partsOf", laid_eggbox_tree_partsOf)], narrowed := true }
def NormJoinsUptoSaid : Prop := normJoinsUptoRow.holds Tryd.pinned (OpenSpec.upto normJoinsSpec)

/-- 'eggboxlaw05.NormOnes', WHERE WHAT IT READS IS OF BULK AT MOST 1048576: true; the input reads as it did. -/
def normOnesUptoRow : OpenClaim := { program := "ytdmjcfecahcdnaadoor", sum := "1dd2658f896e4c550777dfb86dcc14775a97674dbac37568f2cd7f4944ab08de", func := "eggbox/eggboxlaw05.NormOnes", spec := "normOnes", unfollowed := true, recurses := true, named := ["eggbox/tree.partsOf"], apart := false, laid := [("eggbox/tree.partsOf", laid_eggbox_tree_partsOf)], narrowed := true }
def NormOnesUptoSaid : Prop := normOnesUptoRow.holds Tryd.pinned (OpenSpec.upto normOnesSpec)

/-- 'eggboxlaw05.NormMembers', WHERE WHAT IT READS IS OF BULK AT MOST 1048576: true; the input reads as it did. -/
def normMembersUptoRow : OpenClaim := { program := "ytdmjcfecahcdnaadoor", sum := "1dd2658f896e4c550777dfb86dcc14775a97674dbac37568f2cd7f4944ab08de", func := "eggbox/eggboxlaw05.NormMembers", spec := "normMembers", unfollowed := true, recurses := true, named := ["eggbox/tree.partsOf"], apart := false, laid := [("eggbox/tree.partsOf", laid_eggbox_tree_partsOf)], narrowed := true }
def NormMembersUptoSaid : Prop := normMembersUptoRow.holds Tryd.pinned (OpenSpec.upto normMembersSpec)

/-- 'eggboxlaw05.NormOnce', WHERE WHAT IT READS IS OF BULK AT MOST 1048576: true; the input reads as it did. -/
def normOnceUptoRow : OpenClaim := { program := "ytdmjcfecahcdnaadoor", sum := "1dd2658f896e4c550777dfb86dcc14775a97674dbac37568f2cd7f4944ab08de", func := "eggbox/eggboxlaw05.NormOnce", spec := "normOnce", unfollowed := true, recurses := true, named := ["eggbox/tree.partsOf"], apart := false, laid := [("eggbox/tree.partsOf", laid_eggbox_tree_partsOf)], narrowed := true }
def NormOnceUptoSaid : Prop := normOnceUptoRow.holds Tryd.pinned (OpenSpec.upto normOnceSpec)

/-- 'eggboxlaw05.NormLaws', WHERE WHAT IT READS IS OF BULK AT MOST 1048576: true; the input reads as it did. -/
def normLawsUptoRow : OpenClaim := { program := "ytdmjcfecahcdnaadoor", sum := "1dd2658f896e4c550777dfb86dcc14775a97674dbac37568f2cd7f4944ab08de", func := "eggbox/eggboxlaw05.NormLaws", spec := "normLaws", unfollowed := true, recurses := true, named := ["eggbox/tree.partsOf"], apart := false, laid := [("eggbox/tree.partsOf", laid_eggbox_tree_partsOf)], narrowed := true }
def NormLawsUptoSaid : Prop := normLawsUptoRow.holds Tryd.pinned (OpenSpec.upto normLawsSpec)

end Rows
end Go.Proofs.YtdmjcfecahcdnaaDoor
