/-
  No cell of these rows narrows 'for every input' (looked for: loops, veiled, ifaces, maps, wideKeys, modest, calm, conditions, laid).
  DERIVED. THE GIVEN ROWS OF THIS SEAT. 4 by the template 'for every input the law returns true; each argument reads behind the call as it read before'; 0 by the template 'total and deterministic' (their statements: YtihjhkbbpphocaaTotals.lean).
  GIVEN WITH THE SEED: the statements are not yours to turn. If you find one false, say at which input.
  Laid BY PROGRAM, IN A SANDBOX (cutbox-rows.mjs): the forced cells as the released guide's own fill.sh prints them over the translation 9cbca3a4e0dcf1a0… (all of the seat's roots in one cut). By AI agents, Wed Nov 11 2026. No macro, syntax, notation, axiom, sorry.
-/
import Derived.Test.YtihjhkbbpphocaaChecked
import GoSem.Claim
import GoSem.ClaimJoined
import GoSem.ClaimMapViews
import Derived.JoinedTies
import Derived.KernelRfl
namespace Go.Proofs.Ytihjhkbbpphocaa
/- THE CELL 'sum', in the pinned program and in every row, IS THE sha256 OF THE DUMP (.gsa) THAT YtihjhkbbpphocaaProg.lean LOADS. Nothing in Lean hashes anything: it is a label: what it is worth is what the hold of that sum in a sandbox is worth. -/
noncomputable def Try.pinned : Pinned := { name := "ytihjhkbbpphocaa", sum := "9cbca3a4e0dcf1a0bf2784312cefc2f11db72eb2259d42a00f38ec3f62c2efd2", checked := Try.checked }
namespace Rows
def none {H : Type} : Left H := { results := [], args := [] }

/-- 'eggboxlaw13.TransMakes': WHATEVER THE INPUT: true; the input reads as it did. -/
def transMakesSpec : ChangeSpec := { name := "transMakes", fn := fun _ => fun
  | [d1, d2] => { results := [.lit (.bool true)], args := [d1, d2] }
  | _ => none }
def transMakesRow : OpenClaim := { program := "ytihjhkbbpphocaa", sum := "9cbca3a4e0dcf1a0bf2784312cefc2f11db72eb2259d42a00f38ec3f62c2efd2", func := "eggbox/eggboxlaw13.TransMakes", spec := "transMakes", plainKeys := false, apart := false }
def TransMakesSaid : Prop := transMakesRow.holds Try.pinned (OpenSpec.ofChange transMakesSpec)

/-- ITS FALSE NEIGHBOUR: 'it returns false'. Refute it at one input. -/
def transMakesWrong : ChangeSpec := { name := "transMakes", fn := fun _ => fun
  | [d1, d2] => { results := [.lit (.bool false)], args := [d1, d2] }
  | _ => none }
def TransMakesWrongFalsely : Prop := transMakesRow.holds Try.pinned (OpenSpec.ofChange transMakesWrong)

/-- 'eggboxlaw13.TransLooks': WHATEVER THE INPUT: true; the input reads as it did. -/
def transLooksSpec : ChangeSpec := { name := "transLooks", fn := fun _ => fun
  | [d1, d2] => { results := [.lit (.bool true)], args := [d1, d2] }
  | _ => none }
def transLooksRow : OpenClaim := { program := "ytihjhkbbpphocaa", sum := "9cbca3a4e0dcf1a0bf2784312cefc2f11db72eb2259d42a00f38ec3f62c2efd2", func := "eggbox/eggboxlaw13.TransLooks", spec := "transLooks", plainKeys := false, apart := false }
def TransLooksSaid : Prop := transLooksRow.holds Try.pinned (OpenSpec.ofChange transLooksSpec)

/-- ITS FALSE NEIGHBOUR: 'it returns false'. Refute it at one input. -/
def transLooksWrong : ChangeSpec := { name := "transLooks", fn := fun _ => fun
  | [d1, d2] => { results := [.lit (.bool false)], args := [d1, d2] }
  | _ => none }
def TransLooksWrongFalsely : Prop := transLooksRow.holds Try.pinned (OpenSpec.ofChange transLooksWrong)

/-- 'eggboxlaw13.TransWords': WHATEVER THE INPUT: true; the input reads as it did. -/
def transWordsSpec : ChangeSpec := { name := "transWords", fn := fun _ => fun
  | [d1, d2] => { results := [.lit (.bool true)], args := [d1, d2] }
  | _ => none }
def transWordsRow : OpenClaim := { program := "ytihjhkbbpphocaa", sum := "9cbca3a4e0dcf1a0bf2784312cefc2f11db72eb2259d42a00f38ec3f62c2efd2", func := "eggbox/eggboxlaw13.TransWords", spec := "transWords", plainKeys := false, apart := false }
def TransWordsSaid : Prop := transWordsRow.holds Try.pinned (OpenSpec.ofChange transWordsSpec)

/-- ITS FALSE NEIGHBOUR: 'it returns false'. Refute it at one input. -/
def transWordsWrong : ChangeSpec := { name := "transWords", fn := fun _ => fun
  | [d1, d2] => { results := [.lit (.bool false)], args := [d1, d2] }
  | _ => none }
def TransWordsWrongFalsely : Prop := transWordsRow.holds Try.pinned (OpenSpec.ofChange transWordsWrong)

/-- 'eggboxlaw13.TransTables': WHATEVER THE INPUT: true; the input reads as it did. -/
def transTablesSpec : ChangeSpec := { name := "transTables", fn := fun _ => fun
  | [d1, d2, d3] => { results := [.lit (.bool true)], args := [d1, d2, d3] }
  | _ => none }
def transTablesRow : OpenClaim := { program := "ytihjhkbbpphocaa", sum := "9cbca3a4e0dcf1a0bf2784312cefc2f11db72eb2259d42a00f38ec3f62c2efd2", func := "eggbox/eggboxlaw13.TransTables", spec := "transTables", plainKeys := false, apart := false }
def TransTablesSaid : Prop := transTablesRow.holds Try.pinned (OpenSpec.ofChange transTablesSpec)

/-- ITS FALSE NEIGHBOUR: 'it returns false'. Refute it at one input. -/
def transTablesWrong : ChangeSpec := { name := "transTables", fn := fun _ => fun
  | [d1, d2, d3] => { results := [.lit (.bool false)], args := [d1, d2, d3] }
  | _ => none }
def TransTablesWrongFalsely : Prop := transTablesRow.holds Try.pinned (OpenSpec.ofChange transTablesWrong)

/- THE SECOND FORM. 'bulk': how many values and letters a reading holds, each counted each time it is reached (what is shared counts as often as it is met; a slice's spare places count too). A statement '..UptoSaid' is the law's where the arguments, and the package variables that the reading takes, are together of bulk at most 1048576: NARROWER than '..Said'. Prove '..Said' where nothing that the law and all that it calls make is longer than what came in: it says more and counts as full. Else prove '..UptoSaid'. A law counts once. -/
mutual
def uptoBulk {H : Type} : DataW H → Nat
  | .lit (.string bytes) => bytes.length + 1
  | .lit _ => 1
  | .nil => 1
  | .ptr d => uptoBulk d + 1
  | .slice elems spare => uptoBulkAll elems + uptoBulkAll spare + 1
  | .agg parts => uptoBulkAll parts + 1
  | .iface _ d => uptoBulk d + 1
  | .map entries => uptoBulkEntries entries + 1
  | .held _ => 1
def uptoBulkAll {H : Type} : List (DataW H) → Nat
  | [] => 0
  | d :: r => uptoBulk d + uptoBulkAll r
def uptoBulkEntries {H : Type} : List (Lit × DataW H) → Nat
  | [] => 0
  | x :: r => uptoBulkEntry x + uptoBulkEntries r
def uptoBulkEntry {H : Type} : Lit × DataW H → Nat
  | (.string bytes, d) => bytes.length + uptoBulk d + 1
  | (_, d) => uptoBulk d + 1
 end
def uptoSmall : (H : Type) → List (DataW H) → Bool := fun _ ds => decide (uptoBulkAll ds ≤ 1048576)
def OpenSpec.upto (s : _root_.Go.ChangeSpec) : _root_.Go.OpenSpec := { _root_.Go.OpenSpec.ofChange s with cond := some uptoSmall }

/-- 'eggboxlaw13.TransMakes', WHERE WHAT IT READS IS OF BULK AT MOST 1048576: true; the input reads as it did. -/
def transMakesUptoRow : OpenClaim := { program := "ytihjhkbbpphocaa", sum := "9cbca3a4e0dcf1a0bf2784312cefc2f11db72eb2259d42a00f38ec3f62c2efd2", func := "eggbox/eggboxlaw13.TransMakes", spec := "transMakes", plainKeys := false, apart := false, narrowed := true }
def TransMakesUptoSaid : Prop := transMakesUptoRow.holds Try.pinned (OpenSpec.upto transMakesSpec)

/-- 'eggboxlaw13.TransLooks', WHERE WHAT IT READS IS OF BULK AT MOST 1048576: true; the input reads as it did. -/
def transLooksUptoRow : OpenClaim := { program := "ytihjhkbbpphocaa", sum := "9cbca3a4e0dcf1a0bf2784312cefc2f11db72eb2259d42a00f38ec3f62c2efd2", func := "eggbox/eggboxlaw13.TransLooks", spec := "transLooks", plainKeys := false, apart := false, narrowed := true }
def TransLooksUptoSaid : Prop := transLooksUptoRow.holds Try.pinned (OpenSpec.upto transLooksSpec)

/-- 'eggboxlaw13.TransWords', WHERE WHAT IT READS IS OF BULK AT MOST 1048576: true; the input reads as it did. -/
def transWordsUptoRow : OpenClaim := { program := "ytihjhkbbpphocaa", sum := "9cbca3a4e0dcf1a0bf2784312cefc2f11db72eb2259d42a00f38ec3f62c2efd2", func := "eggbox/eggboxlaw13.TransWords", spec := "transWords", plainKeys := false, apart := false, narrowed := true }
def TransWordsUptoSaid : Prop := transWordsUptoRow.holds Try.pinned (OpenSpec.upto transWordsSpec)

/-- 'eggboxlaw13.TransTables', WHERE WHAT IT READS IS OF BULK AT MOST 1048576: true; the input reads as it did. -/
def transTablesUptoRow : OpenClaim := { program := "ytihjhkbbpphocaa", sum := "9cbca3a4e0dcf1a0bf2784312cefc2f11db72eb2259d42a00f38ec3f62c2efd2", func := "eggbox/eggboxlaw13.TransTables", spec := "transTables", plainKeys := false, apart := false, narrowed := true }
def TransTablesUptoSaid : Prop := transTablesUptoRow.holds Try.pinned (OpenSpec.upto transTablesSpec)

end Rows
end Go.Proofs.Ytihjhkbbpphocaa
