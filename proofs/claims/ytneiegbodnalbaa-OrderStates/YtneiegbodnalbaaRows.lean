/-
  No cell of these rows narrows 'for every input' (looked for: loops, veiled, ifaces, maps, wideKeys, modest, calm, conditions, laid).
  DERIVED. THE GIVEN ROWS OF THIS SEAT. 4 by the template 'for every input the law returns true; each argument reads behind the call as it read before'; 0 by the template 'total and deterministic' (their statements: YtneiegbodnalbaaTotals.lean).
  GIVEN WITH THE SEED: the statements are not yours to turn. If you find one false, say at which input.
  Laid BY PROGRAM, IN A SANDBOX (cutbox-rows.mjs): the forced cells as the released guide's own fill.sh prints them over the translation f0e72edcabe16547… (all of the seat's roots in one cut). By AI agents, Wed Nov 11 2026. No macro, syntax, notation, axiom, sorry.
-/
import Derived.Test.YtneiegbodnalbaaChecked
import GoSem.Claim
import GoSem.ClaimJoined
import GoSem.ClaimMapViews
import Derived.JoinedTies
import Derived.KernelRfl
namespace Go.Proofs.Ytneiegbodnalbaa
/- THE CELL 'sum', in the pinned program and in every row, IS THE sha256 OF THE DUMP (.gsa) THAT YtneiegbodnalbaaProg.lean LOADS. Nothing in Lean hashes anything: it is a label: what it is worth is what the hold of that sum in a sandbox is worth. -/
noncomputable def Try.pinned : Pinned := { name := "ytneiegbodnalbaa", sum := "f0e72edcabe16547346bff280fbd0283e428030d04f1ea258ec780949542f2fe", checked := Try.checked }
namespace Rows
def none {H : Type} : Left H := { results := [], args := [] }

/-- 'eggboxlaw18.OrderNil': WHATEVER THE INPUT: true; the input reads as it did. -/
def orderNilSpec : ChangeSpec := { name := "orderNil", fn := fun _ => fun
  | [] => { results := [.lit (.bool true)], args := [] }
  | _ => none }
def orderNilRow : OpenClaim := { program := "ytneiegbodnalbaa", sum := "f0e72edcabe16547346bff280fbd0283e428030d04f1ea258ec780949542f2fe", func := "eggbox/eggboxlaw18.OrderNil", spec := "orderNil", unfollowed := true, recurses := true, plainKeys := false, apart := false }
def OrderNilSaid : Prop := orderNilRow.holds Try.pinned (OpenSpec.ofChange orderNilSpec)

/-- ITS FALSE NEIGHBOUR: 'it returns false'. Refute it at one input. -/
def orderNilWrong : ChangeSpec := { name := "orderNil", fn := fun _ => fun
  | [] => { results := [.lit (.bool false)], args := [] }
  | _ => none }
def OrderNilWrongFalsely : Prop := orderNilRow.holds Try.pinned (OpenSpec.ofChange orderNilWrong)

/-- 'eggboxlaw18.OrderStates': WHATEVER THE INPUT: true; the input reads as it did. -/
def orderStatesSpec : ChangeSpec := { name := "orderStates", fn := fun _ => fun
  | [d1, d2, d3] => { results := [.lit (.bool true)], args := [d1, d2, d3] }
  | _ => none }
def orderStatesRow : OpenClaim := { program := "ytneiegbodnalbaa", sum := "f0e72edcabe16547346bff280fbd0283e428030d04f1ea258ec780949542f2fe", func := "eggbox/eggboxlaw18.OrderStates", spec := "orderStates", unfollowed := true, recurses := true, plainKeys := false, apart := false }
def OrderStatesSaid : Prop := orderStatesRow.holds Try.pinned (OpenSpec.ofChange orderStatesSpec)

/-- ITS FALSE NEIGHBOUR: 'it returns false'. Refute it at one input. -/
def orderStatesWrong : ChangeSpec := { name := "orderStates", fn := fun _ => fun
  | [d1, d2, d3] => { results := [.lit (.bool false)], args := [d1, d2, d3] }
  | _ => none }
def OrderStatesWrongFalsely : Prop := orderStatesRow.holds Try.pinned (OpenSpec.ofChange orderStatesWrong)

/-- 'eggboxlaw18.OrderKept': WHATEVER THE INPUT: true; the input reads as it did. -/
def orderKeptSpec : ChangeSpec := { name := "orderKept", fn := fun _ => fun
  | [d1, d2, d3, d4] => { results := [.lit (.bool true)], args := [d1, d2, d3, d4] }
  | _ => none }
def orderKeptRow : OpenClaim := { program := "ytneiegbodnalbaa", sum := "f0e72edcabe16547346bff280fbd0283e428030d04f1ea258ec780949542f2fe", func := "eggbox/eggboxlaw18.OrderKept", spec := "orderKept", unfollowed := true, recurses := true, plainKeys := false, apart := false }
def OrderKeptSaid : Prop := orderKeptRow.holds Try.pinned (OpenSpec.ofChange orderKeptSpec)

/-- ITS FALSE NEIGHBOUR: 'it returns false'. Refute it at one input. -/
def orderKeptWrong : ChangeSpec := { name := "orderKept", fn := fun _ => fun
  | [d1, d2, d3, d4] => { results := [.lit (.bool false)], args := [d1, d2, d3, d4] }
  | _ => none }
def OrderKeptWrongFalsely : Prop := orderKeptRow.holds Try.pinned (OpenSpec.ofChange orderKeptWrong)

/-- 'eggboxlaw18.OrderSyntactic': WHATEVER THE INPUT: true; the input reads as it did. -/
def orderSyntacticSpec : ChangeSpec := { name := "orderSyntactic", fn := fun _ => fun
  | [d1, d2, d3] => { results := [.lit (.bool true)], args := [d1, d2, d3] }
  | _ => none }
def orderSyntacticRow : OpenClaim := { program := "ytneiegbodnalbaa", sum := "f0e72edcabe16547346bff280fbd0283e428030d04f1ea258ec780949542f2fe", func := "eggbox/eggboxlaw18.OrderSyntactic", spec := "orderSyntactic", unfollowed := true, recurses := true, plainKeys := false, apart := false }
def OrderSyntacticSaid : Prop := orderSyntacticRow.holds Try.pinned (OpenSpec.ofChange orderSyntacticSpec)

/-- ITS FALSE NEIGHBOUR: 'it returns false'. Refute it at one input. -/
def orderSyntacticWrong : ChangeSpec := { name := "orderSyntactic", fn := fun _ => fun
  | [d1, d2, d3] => { results := [.lit (.bool false)], args := [d1, d2, d3] }
  | _ => none }
def OrderSyntacticWrongFalsely : Prop := orderSyntacticRow.holds Try.pinned (OpenSpec.ofChange orderSyntacticWrong)

/- THE SECOND FORM. 'bulk': how many values and letters a reading holds, each counted each time it is reached (what is shared counts as often as it is met; a slice's spare places count too). A statement '..UptoSaid' is the law's where the arguments, and the package variables that the reading takes, are together of bulk at most 1048576: NARROWER than '..Said'. Prove '..Said' where nothing that the law and all that it calls make is longer than what came in: it says more and counts as full. Else prove '..UptoSaid'. A law counts once. -/
mutual
def uptoBulk {H : Type} : DataW H → Nat
  | .lit (.string bytes) => bytes.length + 1
  | .lit _ => 1
  | .nil => 1
  | .ptr d => uptoBulk d + 1
  | .slice elems spare => uptoBulkAll elems + uptoBulkAll spare + 1
  | .agg parts => uptoBulkAll parts + 1
  | .iface _ d => uptoBulk d + 1
  | .map entries => uptoBulkEntries entries + 1
  | .held _ => 1
def uptoBulkAll {H : Type} : List (DataW H) → Nat
  | [] => 0
  | d :: r => uptoBulk d + uptoBulkAll r
def uptoBulkEntries {H : Type} : List (Lit × DataW H) → Nat
  | [] => 0
  | x :: r => uptoBulkEntry x + uptoBulkEntries r
def uptoBulkEntry {H : Type} : Lit × DataW H → Nat
  | (.string bytes, d) => bytes.length + uptoBulk d + 1
  | (_, d) => uptoBulk d + 1
 end
def uptoSmall : (H : Type) → List (DataW H) → Bool := fun _ ds => decide (uptoBulkAll ds ≤ 1048576)
def OpenSpec.upto (s : _root_.Go.ChangeSpec) : _root_.Go.OpenSpec := { _root_.Go.OpenSpec.ofChange s with cond := some uptoSmall }

/-- 'eggboxlaw18.OrderNil', WHERE WHAT IT READS IS OF BULK AT MOST 1048576: true; the input reads as it did. -/
def orderNilUptoRow : OpenClaim := { program := "ytneiegbodnalbaa", sum := "f0e72edcabe16547346bff280fbd0283e428030d04f1ea258ec780949542f2fe", func := "eggbox/eggboxlaw18.OrderNil", spec := "orderNil", unfollowed := true, recurses := true, plainKeys := false, apart := false, narrowed := true }
def OrderNilUptoSaid : Prop := orderNilUptoRow.holds Try.pinned (OpenSpec.upto orderNilSpec)

/-- 'eggboxlaw18.OrderStates', WHERE WHAT IT READS IS OF BULK AT MOST 1048576: true; the input reads as it did. -/
def orderStatesUptoRow : OpenClaim := { program := "ytneiegbodnalbaa", sum := "f0e72edcabe16547346bff280fbd0283e428030d04f1ea258ec780949542f2fe", func := "eggbox/eggboxlaw18.OrderStates", spec := "orderStates", unfollowed := true, recurses := true, plainKeys := false, apart := false, narrowed := true }
def OrderStatesUptoSaid : Prop := orderStatesUptoRow.holds Try.pinned (OpenSpec.upto orderStatesSpec)

/-- 'eggboxlaw18.OrderKept', WHERE WHAT IT READS IS OF BULK AT MOST 1048576: true; the input reads as it did. -/
def orderKeptUptoRow : OpenClaim := { program := "ytneiegbodnalbaa", sum := "f0e72edcabe16547346bff280fbd0283e428030d04f1ea258ec780949542f2fe", func := "eggbox/eggboxlaw18.OrderKept", spec := "orderKept", unfollowed := true, recurses := true, plainKeys := false, apart := false, narrowed := true }
def OrderKeptUptoSaid : Prop := orderKeptUptoRow.holds Try.pinned (OpenSpec.upto orderKeptSpec)

/-- 'eggboxlaw18.OrderSyntactic', WHERE WHAT IT READS IS OF BULK AT MOST 1048576: true; the input reads as it did. -/
def orderSyntacticUptoRow : OpenClaim := { program := "ytneiegbodnalbaa", sum := "f0e72edcabe16547346bff280fbd0283e428030d04f1ea258ec780949542f2fe", func := "eggbox/eggboxlaw18.OrderSyntactic", spec := "orderSyntactic", unfollowed := true, recurses := true, plainKeys := false, apart := false, narrowed := true }
def OrderSyntacticUptoSaid : Prop := orderSyntacticUptoRow.holds Try.pinned (OpenSpec.upto orderSyntacticSpec)

end Rows
end Go.Proofs.Ytneiegbodnalbaa
