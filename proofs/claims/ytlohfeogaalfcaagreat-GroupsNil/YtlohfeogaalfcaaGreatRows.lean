/-
  No cell of these rows narrows 'for every input' (looked for: loops, veiled, ifaces, maps, wideKeys, modest, calm, conditions, laid).
  DERIVED. THE GIVEN ROWS OF THIS SEAT. 3 by the template 'for every input the law returns true; each argument reads behind the call as it read before'; 0 by the template 'total and deterministic' (their statements: YtlohfeogaalfcaaGreatTotals.lean).
  GIVEN WITH THE SEED: the statements are not yours to turn. If you find one false, say at which input.
  Laid BY PROGRAM, IN A SANDBOX (cutbox-rows.mjs): the forced cells as the released guide's own fill.sh prints them over the translation cca3c716f908e54d… (all of the seat's roots in one cut). By AI agents, Wed Nov 11 2026. No macro, syntax, notation, axiom, sorry.
-/
import Derived.Test.YtlohfeogaalfcaaGreatChecked
import GoSem.Claim
import GoSem.ClaimJoined
import GoSem.ClaimMapViews
import Derived.JoinedTies
import Derived.KernelRfl
namespace Go.Proofs.YtlohfeogaalfcaaGreat
/- THE CELL 'sum', in the pinned program and in every row, IS THE sha256 OF THE DUMP (.gsa) THAT YtlohfeogaalfcaaGreatProg.lean LOADS. Nothing in Lean hashes anything: it is a label: what it is worth is what the hold of that sum in a sandbox is worth. -/
noncomputable def Tryz.pinned : Pinned := { name := "ytlohfeogaalfcaagreat", sum := "cca3c716f908e54d4b01aaad5ecfb87558debf96bee9c56e458ae2f9cb5d5333", checked := Tryz.checked }
namespace Rows
def none {H : Type} : Left H := { results := [], args := [] }

/-- 'eggboxlaw17.GroupsLooks': WHATEVER THE INPUT: true; the input reads as it did. -/
def groupsLooksSpec : ChangeSpec := { name := "groupsLooks", fn := fun _ => fun
  | [d1, d2, d3] => { results := [.lit (.bool true)], args := [d1, d2, d3] }
  | _ => none }
def groupsLooksRow : OpenClaim := { program := "ytlohfeogaalfcaagreat", sum := "cca3c716f908e54d4b01aaad5ecfb87558debf96bee9c56e458ae2f9cb5d5333", func := "eggbox/eggboxlaw17.GroupsLooks", spec := "groupsLooks", unfollowed := true, recurses := true, plainKeys := false, apart := false }
def GroupsLooksSaid : Prop := groupsLooksRow.holds Tryz.pinned (OpenSpec.ofChange groupsLooksSpec)

/-- ITS FALSE NEIGHBOUR: 'it returns false'. Refute it at one input. -/
def groupsLooksWrong : ChangeSpec := { name := "groupsLooks", fn := fun _ => fun
  | [d1, d2, d3] => { results := [.lit (.bool false)], args := [d1, d2, d3] }
  | _ => none }
def GroupsLooksWrongFalsely : Prop := groupsLooksRow.holds Tryz.pinned (OpenSpec.ofChange groupsLooksWrong)

/-- 'eggboxlaw17.GroupsLists': WHATEVER THE INPUT: true; the input reads as it did. -/
def groupsListsSpec : ChangeSpec := { name := "groupsLists", fn := fun _ => fun
  | [d1, d2] => { results := [.lit (.bool true)], args := [d1, d2] }
  | _ => none }
def groupsListsRow : OpenClaim := { program := "ytlohfeogaalfcaagreat", sum := "cca3c716f908e54d4b01aaad5ecfb87558debf96bee9c56e458ae2f9cb5d5333", func := "eggbox/eggboxlaw17.GroupsLists", spec := "groupsLists", unfollowed := true, recurses := true, plainKeys := false, apart := false }
def GroupsListsSaid : Prop := groupsListsRow.holds Tryz.pinned (OpenSpec.ofChange groupsListsSpec)

/-- ITS FALSE NEIGHBOUR: 'it returns false'. Refute it at one input. -/
def groupsListsWrong : ChangeSpec := { name := "groupsLists", fn := fun _ => fun
  | [d1, d2] => { results := [.lit (.bool false)], args := [d1, d2] }
  | _ => none }
def GroupsListsWrongFalsely : Prop := groupsListsRow.holds Tryz.pinned (OpenSpec.ofChange groupsListsWrong)

/-- 'eggboxlaw17.GroupsNil': WHATEVER THE INPUT: true; the input reads as it did. -/
def groupsNilSpec : ChangeSpec := { name := "groupsNil", fn := fun _ => fun
  | [d1, d2] => { results := [.lit (.bool true)], args := [d1, d2] }
  | _ => none }
def groupsNilRow : OpenClaim := { program := "ytlohfeogaalfcaagreat", sum := "cca3c716f908e54d4b01aaad5ecfb87558debf96bee9c56e458ae2f9cb5d5333", func := "eggbox/eggboxlaw17.GroupsNil", spec := "groupsNil", unfollowed := true, recurses := true, plainKeys := false, apart := false }
def GroupsNilSaid : Prop := groupsNilRow.holds Tryz.pinned (OpenSpec.ofChange groupsNilSpec)

/-- ITS FALSE NEIGHBOUR: 'it returns false'. Refute it at one input. -/
def groupsNilWrong : ChangeSpec := { name := "groupsNil", fn := fun _ => fun
  | [d1, d2] => { results := [.lit (.bool false)], args := [d1, d2] }
  | _ => none }
def GroupsNilWrongFalsely : Prop := groupsNilRow.holds Tryz.pinned (OpenSpec.ofChange groupsNilWrong)

/- THE SECOND FORM. 'bulk': how many values and letters a reading holds, each counted each time it is reached (what is shared counts as often as it is met; a slice's spare places count too). A statement '..UptoSaid' is the law's where the arguments, and the package variables that the reading takes, are together of bulk at most 1048576: NARROWER than '..Said'. Prove '..Said' where nothing that the law and all that it calls make is longer than what came in: it says more and counts as full. Else prove '..UptoSaid'. A law counts once. -/
mutual
def uptoBulk {H : Type} : DataW H → Nat
  | .lit (.string bytes) => bytes.length + 1
  | .lit _ => 1
  | .nil => 1
  | .ptr d => uptoBulk d + 1
  | .slice elems spare => uptoBulkAll elems + uptoBulkAll spare + 1
  | .agg parts => uptoBulkAll parts + 1
  | .iface _ d => uptoBulk d + 1
  | .map entries => uptoBulkEntries entries + 1
  | .held _ => 1
def uptoBulkAll {H : Type} : List (DataW H) → Nat
  | [] => 0
  | d :: r => uptoBulk d + uptoBulkAll r
def uptoBulkEntries {H : Type} : List (Lit × DataW H) → Nat
  | [] => 0
  | x :: r => uptoBulkEntry x + uptoBulkEntries r
def uptoBulkEntry {H : Type} : Lit × DataW H → Nat
  | (.string bytes, d) => bytes.length + uptoBulk d + 1
  | (_, d) => uptoBulk d + 1
 end
def uptoSmall : (H : Type) → List (DataW H) → Bool := fun _ ds => decide (uptoBulkAll ds ≤ 1048576)
def OpenSpec.upto (s : _root_.Go.ChangeSpec) : _root_.Go.OpenSpec := { _root_.Go.OpenSpec.ofChange s with cond := some uptoSmall }

/-- 'eggboxlaw17.GroupsLooks', WHERE WHAT IT READS IS OF BULK AT MOST 1048576: true; the input reads as it did. -/
def groupsLooksUptoRow : OpenClaim := { program := "ytlohfeogaalfcaagreat", sum := "cca3c716f908e54d4b01aaad5ecfb87558debf96bee9c56e458ae2f9cb5d5333", func := "eggbox/eggboxlaw17.GroupsLooks", spec := "groupsLooks", unfollowed := true, recurses := true, plainKeys := false, apart := false, narrowed := true }
def GroupsLooksUptoSaid : Prop := groupsLooksUptoRow.holds Tryz.pinned (OpenSpec.upto groupsLooksSpec)

/-- 'eggboxlaw17.GroupsLists', WHERE WHAT IT READS IS OF BULK AT MOST 1048576: true; the input reads as it did. -/
def groupsListsUptoRow : OpenClaim := { program := "ytlohfeogaalfcaagreat", sum := "cca3c716f908e54d4b01aaad5ecfb87558debf96bee9c56e458ae2f9cb5d5333", func := "eggbox/eggboxlaw17.GroupsLists", spec := "groupsLists", unfollowed := true, recurses := true, plainKeys := false, apart := false, narrowed := true }
def GroupsListsUptoSaid : Prop := groupsListsUptoRow.holds Tryz.pinned (OpenSpec.upto groupsListsSpec)

/-- 'eggboxlaw17.GroupsNil', WHERE WHAT IT READS IS OF BULK AT MOST 1048576: true; the input reads as it did. -/
def groupsNilUptoRow : OpenClaim := { program := "ytlohfeogaalfcaagreat", sum := "cca3c716f908e54d4b01aaad5ecfb87558debf96bee9c56e458ae2f9cb5d5333", func := "eggbox/eggboxlaw17.GroupsNil", spec := "groupsNil", unfollowed := true, recurses := true, plainKeys := false, apart := false, narrowed := true }
def GroupsNilUptoSaid : Prop := groupsNilUptoRow.holds Tryz.pinned (OpenSpec.upto groupsNilSpec)

end Rows
end Go.Proofs.YtlohfeogaalfcaaGreat
