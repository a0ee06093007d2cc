/-
  No cell of these rows narrows 'for every input' (looked for: loops, veiled, ifaces, maps, wideKeys, modest, calm, conditions, laid).
  DERIVED. THE GIVEN ROWS OF THIS SEAT. 6 by the template 'for every input the law returns true; each argument reads behind the call as it read before'; 0 by the template 'total and deterministic' (their statements: YtafcejipoioigaaTotals.lean).
  GIVEN WITH THE SEED: the statements are not yours to turn. If you find one false, say at which input.
  Laid BY PROGRAM, IN A SANDBOX (cutbox-rows.mjs): the forced cells as the released guide's own fill.sh prints them over the translation 3a5053ddbc1cde83… (all of the seat's roots in one cut). By AI agents, Wed Nov 11 2026. No macro, syntax, notation, axiom, sorry.
-/
import Derived.Test.YtafcejipoioigaaChecked
import GoSem.Claim
import GoSem.ClaimJoined
import GoSem.ClaimMapViews
import Derived.JoinedTies
import Derived.KernelRfl
namespace Go.Proofs.Ytafcejipoioigaa
/- THE CELL 'sum', in the pinned program and in every row, IS THE sha256 OF THE DUMP (.gsa) THAT YtafcejipoioigaaProg.lean LOADS. Nothing in Lean hashes anything: it is a label: what it is worth is what the hold of that sum in a sandbox is worth. -/
noncomputable def Try.pinned : Pinned := { name := "ytafcejipoioigaa", sum := "3a5053ddbc1cde838ffe4eaeb0f77f5aa5865d1f7c2cf91a9395d0d8a80ec678", checked := Try.checked }
namespace Rows
def none {H : Type} : Left H := { results := [], args := [] }

/-- 'eggboxlaw16.IdemNil': WHATEVER THE INPUT: true; the input reads as it did. -/
def idemNilSpec : ChangeSpec := { name := "idemNil", fn := fun _ => fun
  | [] => { results := [.lit (.bool true)], args := [] }
  | _ => none }
def idemNilRow : OpenClaim := { program := "ytafcejipoioigaa", sum := "3a5053ddbc1cde838ffe4eaeb0f77f5aa5865d1f7c2cf91a9395d0d8a80ec678", func := "eggbox/eggboxlaw16.IdemNil", spec := "idemNil", unfollowed := true, recurses := true, plainKeys := false, apart := false }
def IdemNilSaid : Prop := idemNilRow.holds Try.pinned (OpenSpec.ofChange idemNilSpec)

/-- ITS FALSE NEIGHBOUR: 'it returns false'. Refute it at one input. -/
def idemNilWrong : ChangeSpec := { name := "idemNil", fn := fun _ => fun
  | [] => { results := [.lit (.bool false)], args := [] }
  | _ => none }
def IdemNilWrongFalsely : Prop := idemNilRow.holds Try.pinned (OpenSpec.ofChange idemNilWrong)

/-- 'eggboxlaw16.IdemPowers': WHATEVER THE INPUT: true; the input reads as it did. -/
def idemPowersSpec : ChangeSpec := { name := "idemPowers", fn := fun _ => fun
  | [d1, d2] => { results := [.lit (.bool true)], args := [d1, d2] }
  | _ => none }
def idemPowersRow : OpenClaim := { program := "ytafcejipoioigaa", sum := "3a5053ddbc1cde838ffe4eaeb0f77f5aa5865d1f7c2cf91a9395d0d8a80ec678", func := "eggbox/eggboxlaw16.IdemPowers", spec := "idemPowers", unfollowed := true, recurses := true, plainKeys := false, apart := false }
def IdemPowersSaid : Prop := idemPowersRow.holds Try.pinned (OpenSpec.ofChange idemPowersSpec)

/-- ITS FALSE NEIGHBOUR: 'it returns false'. Refute it at one input. -/
def idemPowersWrong : ChangeSpec := { name := "idemPowers", fn := fun _ => fun
  | [d1, d2] => { results := [.lit (.bool false)], args := [d1, d2] }
  | _ => none }
def IdemPowersWrongFalsely : Prop := idemPowersRow.holds Try.pinned (OpenSpec.ofChange idemPowersWrong)

/-- 'eggboxlaw16.IdemInverses': WHATEVER THE INPUT: true; the input reads as it did. -/
def idemInversesSpec : ChangeSpec := { name := "idemInverses", fn := fun _ => fun
  | [d1, d2, d3] => { results := [.lit (.bool true)], args := [d1, d2, d3] }
  | _ => none }
def idemInversesRow : OpenClaim := { program := "ytafcejipoioigaa", sum := "3a5053ddbc1cde838ffe4eaeb0f77f5aa5865d1f7c2cf91a9395d0d8a80ec678", func := "eggbox/eggboxlaw16.IdemInverses", spec := "idemInverses", unfollowed := true, recurses := true, plainKeys := false, apart := false }
def IdemInversesSaid : Prop := idemInversesRow.holds Try.pinned (OpenSpec.ofChange idemInversesSpec)

/-- ITS FALSE NEIGHBOUR: 'it returns false'. Refute it at one input. -/
def idemInversesWrong : ChangeSpec := { name := "idemInverses", fn := fun _ => fun
  | [d1, d2, d3] => { results := [.lit (.bool false)], args := [d1, d2, d3] }
  | _ => none }
def IdemInversesWrongFalsely : Prop := idemInversesRow.holds Try.pinned (OpenSpec.ofChange idemInversesWrong)

/-- 'eggboxlaw16.IdemCycle': WHATEVER THE INPUT: true; the input reads as it did. -/
def idemCycleSpec : ChangeSpec := { name := "idemCycle", fn := fun _ => fun
  | [d1, d2] => { results := [.lit (.bool true)], args := [d1, d2] }
  | _ => none }
def idemCycleRow : OpenClaim := { program := "ytafcejipoioigaa", sum := "3a5053ddbc1cde838ffe4eaeb0f77f5aa5865d1f7c2cf91a9395d0d8a80ec678", func := "eggbox/eggboxlaw16.IdemCycle", spec := "idemCycle", unfollowed := true, recurses := true, plainKeys := false, apart := false }
def IdemCycleSaid : Prop := idemCycleRow.holds Try.pinned (OpenSpec.ofChange idemCycleSpec)

/-- ITS FALSE NEIGHBOUR: 'it returns false'. Refute it at one input. -/
def idemCycleWrong : ChangeSpec := { name := "idemCycle", fn := fun _ => fun
  | [d1, d2] => { results := [.lit (.bool false)], args := [d1, d2] }
  | _ => none }
def IdemCycleWrongFalsely : Prop := idemCycleRow.holds Try.pinned (OpenSpec.ofChange idemCycleWrong)

/-- 'eggboxlaw16.IdemRegular': WHATEVER THE INPUT: true; the input reads as it did. -/
def idemRegularSpec : ChangeSpec := { name := "idemRegular", fn := fun _ => fun
  | [d1, d2] => { results := [.lit (.bool true)], args := [d1, d2] }
  | _ => none }
def idemRegularRow : OpenClaim := { program := "ytafcejipoioigaa", sum := "3a5053ddbc1cde838ffe4eaeb0f77f5aa5865d1f7c2cf91a9395d0d8a80ec678", func := "eggbox/eggboxlaw16.IdemRegular", spec := "idemRegular", unfollowed := true, recurses := true, plainKeys := false, apart := false }
def IdemRegularSaid : Prop := idemRegularRow.holds Try.pinned (OpenSpec.ofChange idemRegularSpec)

/-- ITS FALSE NEIGHBOUR: 'it returns false'. Refute it at one input. -/
def idemRegularWrong : ChangeSpec := { name := "idemRegular", fn := fun _ => fun
  | [d1, d2] => { results := [.lit (.bool false)], args := [d1, d2] }
  | _ => none }
def IdemRegularWrongFalsely : Prop := idemRegularRow.holds Try.pinned (OpenSpec.ofChange idemRegularWrong)

/-- 'eggboxlaw16.IdemOrder': WHATEVER THE INPUT: true; the input reads as it did. -/
def idemOrderSpec : ChangeSpec := { name := "idemOrder", fn := fun _ => fun
  | [d1, d2, d3, d4] => { results := [.lit (.bool true)], args := [d1, d2, d3, d4] }
  | _ => none }
def idemOrderRow : OpenClaim := { program := "ytafcejipoioigaa", sum := "3a5053ddbc1cde838ffe4eaeb0f77f5aa5865d1f7c2cf91a9395d0d8a80ec678", func := "eggbox/eggboxlaw16.IdemOrder", spec := "idemOrder", unfollowed := true, recurses := true, plainKeys := false, apart := false }
def IdemOrderSaid : Prop := idemOrderRow.holds Try.pinned (OpenSpec.ofChange idemOrderSpec)

/-- ITS FALSE NEIGHBOUR: 'it returns false'. Refute it at one input. -/
def idemOrderWrong : ChangeSpec := { name := "idemOrder", fn := fun _ => fun
  | [d1, d2, d3, d4] => { results := [.lit (.bool false)], args := [d1, d2, d3, d4] }
  | _ => none }
def IdemOrderWrongFalsely : Prop := idemOrderRow.holds Try.pinned (OpenSpec.ofChange idemOrderWrong)

/- THE SECOND FORM. 'bulk': how many values and letters a reading holds, each counted each time it is reached (what is shared counts as often as it is met; a slice's spare places count too). A statement '..UptoSaid' is the law's where the arguments, and the package variables that the reading takes, are together of bulk at most 1048576: NARROWER than '..Said'. Prove '..Said' where nothing that the law and all that it calls make is longer than what came in: it says more and counts as full. Else prove '..UptoSaid'. A law counts once. -/
mutual
def uptoBulk {H : Type} : DataW H → Nat
  | .lit (.string bytes) => bytes.length + 1
  | .lit _ => 1
  | .nil => 1
  | .ptr d => uptoBulk d + 1
  | .slice elems spare => uptoBulkAll elems + uptoBulkAll spare + 1
  | .agg parts => uptoBulkAll parts + 1
  | .iface _ d => uptoBulk d + 1
  | .map entries => uptoBulkEntries entries + 1
  | .held _ => 1
def uptoBulkAll {H : Type} : List (DataW H) → Nat
  | [] => 0
  | d :: r => uptoBulk d + uptoBulkAll r
def uptoBulkEntries {H : Type} : List (Lit × DataW H) → Nat
  | [] => 0
  | x :: r => uptoBulkEntry x + uptoBulkEntries r
def uptoBulkEntry {H : Type} : Lit × DataW H → Nat
  | (.string bytes, d) => bytes.length + uptoBulk d + 1
  | (_, d) => uptoBulk d + 1
 end
def uptoSmall : (H : Type) → List (DataW H) → Bool := fun _ ds => decide (uptoBulkAll ds ≤ 1048576)
def OpenSpec.upto (s : _root_.Go.ChangeSpec) : _root_.Go.OpenSpec := { _root_.Go.OpenSpec.ofChange s with cond := some uptoSmall }

/-- 'eggboxlaw16.IdemNil', WHERE WHAT IT READS IS OF BULK AT MOST 1048576: true; the input reads as it did. -/
def idemNilUptoRow : OpenClaim := { program := "ytafcejipoioigaa", sum := "3a5053ddbc1cde838ffe4eaeb0f77f5aa5865d1f7c2cf91a9395d0d8a80ec678", func := "eggbox/eggboxlaw16.IdemNil", spec := "idemNil", unfollowed := true, recurses := true, plainKeys := false, apart := false, narrowed := true }
def IdemNilUptoSaid : Prop := idemNilUptoRow.holds Try.pinned (OpenSpec.upto idemNilSpec)

/-- 'eggboxlaw16.IdemPowers', WHERE WHAT IT READS IS OF BULK AT MOST 1048576: true; the input reads as it did. -/
def idemPowersUptoRow : OpenClaim := { program := "ytafcejipoioigaa", sum := "3a5053ddbc1cde838ffe4eaeb0f77f5aa5865d1f7c2cf91a9395d0d8a80ec678", func := "eggbox/eggboxlaw16.IdemPowers", spec := "idemPowers", unfollowed := true, recurses := true, plainKeys := false, apart := false, narrowed := true }
def IdemPowersUptoSaid : Prop := idemPowersUptoRow.holds Try.pinned (OpenSpec.upto idemPowersSpec)

/-- 'eggboxlaw16.IdemInverses', WHERE WHAT IT READS IS OF BULK AT MOST 1048576: true; the input reads as it did. -/
def idemInversesUptoRow : OpenClaim := { program := "ytafcejipoioigaa", sum := "3a5053ddbc1cde838ffe4eaeb0f77f5aa5865d1f7c2cf91a9395d0d8a80ec678", func := "eggbox/eggboxlaw16.IdemInverses", spec := "idemInverses", unfollowed := true, recurses := true, plainKeys := false, apart := false, narrowed := true }
def IdemInversesUptoSaid : Prop := idemInversesUptoRow.holds Try.pinned (OpenSpec.upto idemInversesSpec)

/-- 'eggboxlaw16.IdemCycle', WHERE WHAT IT READS IS OF BULK AT MOST 1048576: true; the input reads as it did. -/
def idemCycleUptoRow : OpenClaim := { program := "ytafcejipoioigaa", sum := "3a5053ddbc1cde838ffe4eaeb0f77f5aa5865d1f7c2cf91a9395d0d8a80ec678", func := "eggbox/eggboxlaw16.IdemCycle", spec := "idemCycle", unfollowed := true, recurses := true, plainKeys := false, apart := false, narrowed := true }
def IdemCycleUptoSaid : Prop := idemCycleUptoRow.holds Try.pinned (OpenSpec.upto idemCycleSpec)

/-- 'eggboxlaw16.IdemRegular', WHERE WHAT IT READS IS OF BULK AT MOST 1048576: true; the input reads as it did. -/
def idemRegularUptoRow : OpenClaim := { program := "ytafcejipoioigaa", sum := "3a5053ddbc1cde838ffe4eaeb0f77f5aa5865d1f7c2cf91a9395d0d8a80ec678", func := "eggbox/eggboxlaw16.IdemRegular", spec := "idemRegular", unfollowed := true, recurses := true, plainKeys := false, apart := false, narrowed := true }
def IdemRegularUptoSaid : Prop := idemRegularUptoRow.holds Try.pinned (OpenSpec.upto idemRegularSpec)

/-- 'eggboxlaw16.IdemOrder', WHERE WHAT IT READS IS OF BULK AT MOST 1048576: true; the input reads as it did. -/
def idemOrderUptoRow : OpenClaim := { program := "ytafcejipoioigaa", sum := "3a5053ddbc1cde838ffe4eaeb0f77f5aa5865d1f7c2cf91a9395d0d8a80ec678", func := "eggbox/eggboxlaw16.IdemOrder", spec := "idemOrder", unfollowed := true, recurses := true, plainKeys := false, apart := false, narrowed := true }
def IdemOrderUptoSaid : Prop := idemOrderUptoRow.holds Try.pinned (OpenSpec.upto idemOrderSpec)

end Rows
end Go.Proofs.Ytafcejipoioigaa
