/-
  NARROWER THAN 'FOR EVERY INPUT', by the rows' own cells (each row's printed sentence says how): MatchMembers: laid · MatchWords: laid · MatchMoved: laid · MatchBoole: laid · MatchKleene: laid.
  DERIVED. THE GIVEN ROWS OF THIS SEAT. 5 by the template 'for every input the law returns true; each argument reads behind the call as it read before'; 0 by the template 'total and deterministic' (their statements: YtfdkkiecibdblaaDoorTotals.lean).
  GIVEN WITH THE SEED: the statements are not yours to turn. If you find one false, say at which input.
  Laid BY PROGRAM, IN A SANDBOX (cutbox-rows.mjs): the forced cells as the released guide's own fill.sh prints them over the translation 2d9a15202f16d870… (all of the seat's roots in one cut). By AI agents, Wed Nov 11 2026. No macro, syntax, notation, axiom, sorry.
-/
import Derived.Test.YtfdkkiecibdblaaDoorChecked
import GoSem.Claim
import GoSem.ClaimJoined
import GoSem.ClaimMapViews
import Derived.JoinedTies
import Derived.KernelRfl
namespace Go.Proofs.YtfdkkiecibdblaaDoor
/- THE CELL 'sum', in the pinned program and in every row, IS THE sha256 OF THE DUMP (.gsa) THAT YtfdkkiecibdblaaDoorProg.lean LOADS. Nothing in Lean hashes anything: it is a label: what it is worth is what the hold of that sum in a sandbox is worth. -/
noncomputable def Tryd.pinned : Pinned := { name := "ytfdkkiecibdblaadoor", sum := "2d9a15202f16d870709e3737aff5a6ffd18401686728da3d153330e1e7d9eaa9", checked := Tryd.checked }
namespace Rows
def none {H : Type} : Left H := { results := [], args := [] }

/- WHAT THE LISTED PACKAGE-LEVEL VARIABLES READ AS WHEN THE CALL BEGINS. Each datum BY PROGRAM (the guide's laid-datum.mjs) off the statement by which the dump's own 'gosem.cut.vars' lays the variable. In a bare row this is a premise. The card (YtfdkkiecibdblaaDoorCards.lean) ties it to the program's text. -/
def laid_math_bits_deBruijn64tab {H : Type} : DataW H := .agg [.lit (.int .u8 0), .lit (.int .u8 1), .lit (.int .u8 56), .lit (.int .u8 2), .lit (.int .u8 57), .lit (.int .u8 49), .lit (.int .u8 28), .lit (.int .u8 3), .lit (.int .u8 61), .lit (.int .u8 58), .lit (.int .u8 42), .lit (.int .u8 50), .lit (.int .u8 38), .lit (.int .u8 29), .lit (.int .u8 17), .lit (.int .u8 4), .lit (.int .u8 62), .lit (.int .u8 47), .lit (.int .u8 59), .lit (.int .u8 36), .lit (.int .u8 45), .lit (.int .u8 43), .lit (.int .u8 51), .lit (.int .u8 22), .lit (.int .u8 53), .lit (.int .u8 39), .lit (.int .u8 33), .lit (.int .u8 30), .lit (.int .u8 24), .lit (.int .u8 18), .lit (.int .u8 12), .lit (.int .u8 5), .lit (.int .u8 63), .lit (.int .u8 55), .lit (.int .u8 48), .lit (.int .u8 27), .lit (.int .u8 60), .lit (.int .u8 41), .lit (.int .u8 37), .lit (.int .u8 16), .lit (.int .u8 46), .lit (.int .u8 35), .lit (.int .u8 44), .lit (.int .u8 21), .lit (.int .u8 52), .lit (.int .u8 32), .lit (.int .u8 23), .lit (.int .u8 11), .lit (.int .u8 54), .lit (.int .u8 26), .lit (.int .u8 40), .lit (.int .u8 15), .lit (.int .u8 34), .lit (.int .u8 20), .lit (.int .u8 31), .lit (.int .u8 10), .lit (.int .u8 25), .lit (.int .u8 14), .lit (.int .u8 19), .lit (.int .u8 9), .lit (.int .u8 13), .lit (.int .u8 8), .lit (.int .u8 7), .lit (.int .u8 6)]
def laid_eggbox_tree_partsOf {H : Type} : DataW H := .agg [.lit (.int .i64 0), .lit (.int .i64 0), .lit (.int .i64 0), .lit (.int .i64 0), .lit (.int .i64 0), .lit (.int .i64 2), .lit (.int .i64 2), .lit (.int .i64 2), .lit (.int .i64 1), .lit (.int .i64 1)]

/-- 'eggboxlaw06.MatchMembers': WHATEVER THE INPUT: true; the input reads as it did. -/
def matchMembersSpec : ChangeSpec := { name := "matchMembers", fn := fun _ => fun
  | [d1, d2, d3] => { results := [.lit (.bool true)], args := [d1, d2, d3] }
  | _ => none }
def matchMembersRow : OpenClaim := { program := "ytfdkkiecibdblaadoor", sum := "2d9a15202f16d870709e3737aff5a6ffd18401686728da3d153330e1e7d9eaa9", func := "eggbox/eggboxlaw06.MatchMembers", spec := "matchMembers", unfollowed := true, recurses := true, named := ["eggbox/tree.partsOf", "math/bits.deBruijn64tab"], apart := false, laid := [("math/bits.deBruijn64tab", laid_math_bits_deBruijn64tab), ("eggbox/tree.partsOf", laid_eggbox_tree_partsOf)] }
def MatchMembersSaid : Prop := matchMembersRow.holds Tryd.pinned (OpenSpec.ofChange matchMembersSpec)

/-- ITS FALSE NEIGHBOUR: 'it returns false'. Refute it at one input. -/
def matchMembersWrong : ChangeSpec := { name := "matchMembers", fn := fun _ => fun
  | [d1, d2, d3] => { results := [.lit (.bool false)], args := [d1, d2, d3] }
  | _ => none }
def MatchMembersWrongFalsely : Prop := matchMembersRow.holds Tryd.pinned (OpenSpec.ofChange matchMembersWrong)

/-- 'eggboxlaw06.MatchWords': WHATEVER THE INPUT: true; the input reads as it did. -/
def matchWordsSpec : ChangeSpec := { name := "matchWords", fn := fun _ => fun
  | [d1, d2, d3] => { results := [.lit (.bool true)], args := [d1, d2, d3] }
  | _ => none }
def matchWordsRow : OpenClaim := { program := "ytfdkkiecibdblaadoor", sum := "2d9a15202f16d870709e3737aff5a6ffd18401686728da3d153330e1e7d9eaa9", func := "eggbox/eggboxlaw06.MatchWords", spec := "matchWords", inPlace := ["internal/bytealg.MakeNoZero"], unfollowed := true, recurses := true, named := ["eggbox/tree.partsOf", "math/bits.deBruijn64tab"], apart := false, laid := [("math/bits.deBruijn64tab", laid_math_bits_deBruijn64tab), ("eggbox/tree.partsOf", laid_eggbox_tree_partsOf)] }
def MatchWordsSaid : Prop := matchWordsRow.holds Tryd.pinned (OpenSpec.ofChange matchWordsSpec)

/-- ITS FALSE NEIGHBOUR: 'it returns false'. Refute it at one input. -/
def matchWordsWrong : ChangeSpec := { name := "matchWords", fn := fun _ => fun
  | [d1, d2, d3] => { results := [.lit (.bool false)], args := [d1, d2, d3] }
  | _ => none }
def MatchWordsWrongFalsely : Prop := matchWordsRow.holds Tryd.pinned (OpenSpec.ofChange matchWordsWrong)

/-- 'eggboxlaw06.MatchMoved': WHATEVER THE INPUT: true; the input reads as it did. -/
def matchMovedSpec : ChangeSpec := { name := "matchMoved", fn := fun _ => fun
  | [d1, d2, d3] => { results := [.lit (.bool true)], args := [d1, d2, d3] }
  | _ => none }
def matchMovedRow : OpenClaim := { program := "ytfdkkiecibdblaadoor", sum := "2d9a15202f16d870709e3737aff5a6ffd18401686728da3d153330e1e7d9eaa9", func := "eggbox/eggboxlaw06.MatchMoved", spec := "matchMoved", unfollowed := true, recurses := true, named := ["eggbox/tree.partsOf", "math/bits.deBruijn64tab"], apart := false, laid := [("math/bits.deBruijn64tab", laid_math_bits_deBruijn64tab), ("eggbox/tree.partsOf", laid_eggbox_tree_partsOf)] }
def MatchMovedSaid : Prop := matchMovedRow.holds Tryd.pinned (OpenSpec.ofChange matchMovedSpec)

/-- ITS FALSE NEIGHBOUR: 'it returns false'. Refute it at one input. -/
def matchMovedWrong : ChangeSpec := { name := "matchMoved", fn := fun _ => fun
  | [d1, d2, d3] => { results := [.lit (.bool false)], args := [d1, d2, d3] }
  | _ => none }
def MatchMovedWrongFalsely : Prop := matchMovedRow.holds Tryd.pinned (OpenSpec.ofChange matchMovedWrong)

/-- 'eggboxlaw06.MatchBoole': WHATEVER THE INPUT: true; the input reads as it did. -/
def matchBooleSpec : ChangeSpec := { name := "matchBoole", fn := fun _ => fun
  | [d1, d2, d3] => { results := [.lit (.bool true)], args := [d1, d2, d3] }
  | _ => none }
def matchBooleRow : OpenClaim := { program := "ytfdkkiecibdblaadoor", sum := "2d9a15202f16d870709e3737aff5a6ffd18401686728da3d153330e1e7d9eaa9", func := "eggbox/eggboxlaw06.MatchBoole", spec := "matchBoole", unfollowed := true, recurses := true, named := ["eggbox/tree.partsOf", "math/bits.deBruijn64tab"], apart := false, laid := [("math/bits.deBruijn64tab", laid_math_bits_deBruijn64tab), ("eggbox/tree.partsOf", laid_eggbox_tree_partsOf)] }
def MatchBooleSaid : Prop := matchBooleRow.holds Tryd.pinned (OpenSpec.ofChange matchBooleSpec)

/-- ITS FALSE NEIGHBOUR: 'it returns false'. Refute it at one input. -/
def matchBooleWrong : ChangeSpec := { name := "matchBoole", fn := fun _ => fun
  | [d1, d2, d3] => { results := [.lit (.bool false)], args := [d1, d2, d3] }
  | _ => none }
def MatchBooleWrongFalsely : Prop := matchBooleRow.holds Tryd.pinned (OpenSpec.ofChange matchBooleWrong)

/-- 'eggboxlaw06.MatchKleene': WHATEVER THE INPUT: true; the input reads as it did. -/
def matchKleeneSpec : ChangeSpec := { name := "matchKleene", fn := fun _ => fun
  | [d1, d2, d3] => { results := [.lit (.bool true)], args := [d1, d2, d3] }
  | _ => none }
def matchKleeneRow : OpenClaim := { program := "ytfdkkiecibdblaadoor", sum := "2d9a15202f16d870709e3737aff5a6ffd18401686728da3d153330e1e7d9eaa9", func := "eggbox/eggboxlaw06.MatchKleene", spec := "matchKleene", unfollowed := true, recurses := true, named := ["eggbox/tree.partsOf", "math/bits.deBruijn64tab"], apart := false, laid := [("math/bits.deBruijn64tab", laid_math_bits_deBruijn64tab), ("eggbox/tree.partsOf", laid_eggbox_tree_partsOf)] }
def MatchKleeneSaid : Prop := matchKleeneRow.holds Tryd.pinned (OpenSpec.ofChange matchKleeneSpec)

/-- ITS FALSE NEIGHBOUR: 'it returns false'. Refute it at one input. -/
def matchKleeneWrong : ChangeSpec := { name := "matchKleene", fn := fun _ => fun
  | [d1, d2, d3] => { results := [.lit (.bool false)], args := [d1, d2, d3] }
  | _ => none }
def MatchKleeneWrongFalsely : Prop := matchKleeneRow.holds Tryd.pinned (OpenSpec.ofChange matchKleeneWrong)

/- THE SECOND FORM. 'bulk': how many values and letters a reading holds, each counted each time it is reached (what is shared counts as often as it is met; a slice's spare places count too). A statement '..UptoSaid' is the law's where the arguments, and the package variables that the reading takes, are together of bulk at most 1048576: NARROWER than '..Said'. Prove '..Said' where nothing that the law and all that it calls make is longer than what came in: it says more and counts as full. Else prove '..UptoSaid'. A law counts once. -/
mutual
def uptoBulk {H : Type} : DataW H → Nat
  | .lit (.string bytes) => bytes.length + 1
  | .lit _ => 1
  | .nil => 1
  | .ptr d => uptoBulk d + 1
  | .slice elems spare => uptoBulkAll elems + uptoBulkAll spare + 1
  | .agg parts => uptoBulkAll parts + 1
  | .iface _ d => uptoBulk d + 1
  | .map entries => uptoBulkEntries entries + 1
  | .held _ => 1
def uptoBulkAll {H : Type} : List (DataW H) → Nat
  | [] => 0
  | d :: r => uptoBulk d + uptoBulkAll r
def uptoBulkEntries {H : Type} : List (Lit × DataW H) → Nat
  | [] => 0
  | x :: r => uptoBulkEntry x + uptoBulkEntries r
def uptoBulkEntry {H : Type} : Lit × DataW H → Nat
  | (.string bytes, d) => bytes.length + uptoBulk d + 1
  | (_, d) => uptoBulk d + 1
 end
def uptoSmall : (H : Type) → List (DataW H) → Bool := fun _ ds => decide (uptoBulkAll ds ≤ 1048576)
def OpenSpec.upto (s : _root_.Go.ChangeSpec) : _root_.Go.OpenSpec := { _root_.Go.OpenSpec.ofChange s with cond := some uptoSmall }

/-- 'eggboxlaw06.MatchMembers', WHERE WHAT IT READS IS OF BULK AT MOST 1048576: true; the input reads as it did. -/
def matchMembersUptoRow : OpenClaim := { program := "ytfdkkiecibdblaadoor", sum := "2d9a15202f16d870709e3737aff5a6ffd18401686728da3d153330e1e7d9eaa9", func := "eggbox/eggboxlaw06.MatchMembers", spec := "matchMembers", unfollowed := true, recurses := true, named := ["eggbox/tree.partsOf", "math/bits.deBruijn64tab"], apart := false, laid := [("math/bits.deBruijn64tab", laid_math_bits_deBruijn64tab), ("eggbox/tree.partsOf", laid_eggbox_tree_partsOf)], narrowed := true }
def MatchMembersUptoSaid : Prop := matchMembersUptoRow.holds Tryd.pinned (OpenSpec.upto matchMembersSpec)

/-- 'eggboxlaw06.MatchWords', WHERE WHAT IT READS IS OF BULK AT MOST 1048576: true; the input reads as it did. -/
def matchWordsUptoRow : OpenClaim := { program := "ytfdkkiecibdblaadoor", sum := "2d9a15202f16d870709e3737aff5a6ffd18401686728da3d153330e1e7d9eaa9", func := "eggbox/eggboxlaw06.MatchWords", spec := "matchWords", inPlace := ["internal/bytealg.MakeNoZero"], unfollowed := true, recurses := true, named := ["eggbox/tree.partsOf", "math/bits.deBruijn64tab"], apart := false, laid := [("math/bits.deBruijn64tab", laid_math_bits_deBruijn64tab), ("eggbox/tree.partsOf", laid_eggbox_tree_partsOf)], narrowed := true }
def MatchWordsUptoSaid : Prop := matchWordsUptoRow.holds Tryd.pinned (OpenSpec.upto matchWordsSpec)

/-- 'eggboxlaw06.MatchMoved', WHERE WHAT IT READS IS OF BULK AT MOST 1048576: true; the input reads as it did. -/
def matchMovedUptoRow : OpenClaim := { program := "ytfdkkiecibdblaadoor", sum := "2d9a15202f16d870709e3737aff5a6ffd18401686728da3d153330e1e7d9eaa9", func := "eggbox/eggboxlaw06.MatchMoved", spec := "matchMoved", unfollowed := true, recurses := true, named := ["eggbox/tree.partsOf", "math/bits.deBruijn64tab"], apart := false, laid := [("math/bits.deBruijn64tab", laid_math_bits_deBruijn64tab), ("eggbox/tree.partsOf", laid_eggbox_tree_partsOf)], narrowed := true }
def MatchMovedUptoSaid : Prop := matchMovedUptoRow.holds Tryd.pinned (OpenSpec.upto matchMovedSpec)

/-- 'eggboxlaw06.MatchBoole', WHERE WHAT IT READS IS OF BULK AT MOST 1048576: true; the input reads as it did. -/
def matchBooleUptoRow : OpenClaim := { program := "ytfdkkiecibdblaadoor", sum := "2d9a15202f16d870709e3737aff5a6ffd18401686728da3d153330e1e7d9eaa9", func := "eggbox/eggboxlaw06.MatchBoole", spec := "matchBoole", unfollowed := true, recurses := true, named := ["eggbox/tree.partsOf", "math/bits.deBruijn64tab"], apart := false, laid := [("math/bits.deBruijn64tab", laid_math_bits_deBruijn64tab), ("eggbox/tree.partsOf", laid_eggbox_tree_partsOf)], narrowed := true }
def MatchBooleUptoSaid : Prop := matchBooleUptoRow.holds Tryd.pinned (OpenSpec.upto matchBooleSpec)

/-- 'eggboxlaw06.MatchKleene', WHERE WHAT IT READS IS OF BULK AT MOST 1048576: true; the input reads as it did. -/
def matchKleeneUptoRow : OpenClaim := { program := "ytfdkkiecibdblaadoor", sum := "2d9a15202f16d870709e3737aff5a6ffd18401686728da3d153330e1e7d9eaa9", func := "eggbox/eggboxlaw06.MatchKleene", spec := "matchKleene", unfollowed := true, recurses := true, named := ["eggbox/tree.partsOf", "math/bits.deBruijn64tab"], apart := false, laid := [("math/bits.deBruijn64tab", laid_math_bits_deBruijn64tab), ("eggbox/tree.partsOf", laid_eggbox_tree_partsOf)], narrowed := true }
def MatchKleeneUptoSaid : Prop := matchKleeneUptoRow.holds Tryd.pinned (OpenSpec.upto matchKleeneSpec)

end Rows
end Go.Proofs.YtfdkkiecibdblaaDoor
