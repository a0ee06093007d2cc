/-
  No cell of these rows narrows 'for every input' (looked for: loops, veiled, ifaces, maps, wideKeys, modest, calm, conditions, laid).
  DERIVED. THE GIVEN ROWS OF THIS SEAT. 5 by the template 'for every input the law returns true; each argument reads behind the call as it read before'; 0 by the template 'total and deterministic' (their statements: YthhlamehbcidgaaTotals.lean).
  GIVEN WITH THE SEED: the statements are not yours to turn. If you find one false, say at which input.
  Laid BY PROGRAM, IN A SANDBOX (cutbox-rows.mjs): the forced cells as the released guide's own fill.sh prints them over the translation e106ca79d45764c9… (all of the seat's roots in one cut). By AI agents, Wed Nov 11 2026. No macro, syntax, notation, axiom, sorry.
-/
import Derived.Test.YthhlamehbcidgaaChecked
import GoSem.Claim
import GoSem.ClaimJoined
import GoSem.ClaimMapViews
import Derived.JoinedTies
import Derived.KernelRfl
namespace Go.Proofs.Ythhlamehbcidgaa
/- THE CELL 'sum', in the pinned program and in every row, IS THE sha256 OF THE DUMP (.gsa) THAT YthhlamehbcidgaaProg.lean LOADS. Nothing in Lean hashes anything: it is a label: what it is worth is what the hold of that sum in a sandbox is worth. -/
noncomputable def Try.pinned : Pinned := { name := "ythhlamehbcidgaa", sum := "e106ca79d45764c99253bb24e28309499abe1241d344c1c60a17043f2f62f4eb", checked := Try.checked }
namespace Rows
def none {H : Type} : Left H := { results := [], args := [] }

/-- 'eggboxlaw19.TermsParses': WHATEVER THE INPUT: true; the input reads as it did. -/
def termsParsesSpec : ChangeSpec := { name := "termsParses", fn := fun _ => fun
  | [d] => { results := [.lit (.bool true)], args := [d] }
  | _ => none }
def termsParsesRow : OpenClaim := { program := "ythhlamehbcidgaa", sum := "e106ca79d45764c99253bb24e28309499abe1241d344c1c60a17043f2f62f4eb", func := "eggbox/eggboxlaw19.TermsParses", spec := "termsParses", inPlace := ["internal/bytealg.IndexByteString"], unfollowed := true, recurses := true, plainKeys := false, apart := false }
def TermsParsesSaid : Prop := termsParsesRow.holds Try.pinned (OpenSpec.ofChange termsParsesSpec)

/-- ITS FALSE NEIGHBOUR: 'it returns false'. Refute it at one input. -/
def termsParsesWrong : ChangeSpec := { name := "termsParses", fn := fun _ => fun
  | [d] => { results := [.lit (.bool false)], args := [d] }
  | _ => none }
def TermsParsesWrongFalsely : Prop := termsParsesRow.holds Try.pinned (OpenSpec.ofChange termsParsesWrong)

/-- 'eggboxlaw19.TermsPrints': WHATEVER THE INPUT: true; the input reads as it did. -/
def termsPrintsSpec : ChangeSpec := { name := "termsPrints", fn := fun _ => fun
  | [d] => { results := [.lit (.bool true)], args := [d] }
  | _ => none }
def termsPrintsRow : OpenClaim := { program := "ythhlamehbcidgaa", sum := "e106ca79d45764c99253bb24e28309499abe1241d344c1c60a17043f2f62f4eb", func := "eggbox/eggboxlaw19.TermsPrints", spec := "termsPrints", inPlace := ["internal/bytealg.IndexByteString"], unfollowed := true, recurses := true, plainKeys := false, apart := false }
def TermsPrintsSaid : Prop := termsPrintsRow.holds Try.pinned (OpenSpec.ofChange termsPrintsSpec)

/-- ITS FALSE NEIGHBOUR: 'it returns false'. Refute it at one input. -/
def termsPrintsWrong : ChangeSpec := { name := "termsPrints", fn := fun _ => fun
  | [d] => { results := [.lit (.bool false)], args := [d] }
  | _ => none }
def TermsPrintsWrongFalsely : Prop := termsPrintsRow.holds Try.pinned (OpenSpec.ofChange termsPrintsWrong)

/-- 'eggboxlaw19.TermsWords': WHATEVER THE INPUT: true; the input reads as it did. -/
def termsWordsSpec : ChangeSpec := { name := "termsWords", fn := fun _ => fun
  | [d1, d2, d3, d4] => { results := [.lit (.bool true)], args := [d1, d2, d3, d4] }
  | _ => none }
def termsWordsRow : OpenClaim := { program := "ythhlamehbcidgaa", sum := "e106ca79d45764c99253bb24e28309499abe1241d344c1c60a17043f2f62f4eb", func := "eggbox/eggboxlaw19.TermsWords", spec := "termsWords", inPlace := ["internal/bytealg.IndexByteString", "internal/abi.NoEscape", "internal/bytealg.MakeNoZero"], unfollowed := true, recurses := true, plainKeys := false, apart := false }
def TermsWordsSaid : Prop := termsWordsRow.holds Try.pinned (OpenSpec.ofChange termsWordsSpec)

/-- ITS FALSE NEIGHBOUR: 'it returns false'. Refute it at one input. -/
def termsWordsWrong : ChangeSpec := { name := "termsWords", fn := fun _ => fun
  | [d1, d2, d3, d4] => { results := [.lit (.bool false)], args := [d1, d2, d3, d4] }
  | _ => none }
def TermsWordsWrongFalsely : Prop := termsWordsRow.holds Try.pinned (OpenSpec.ofChange termsWordsWrong)

/-- 'eggboxlaw19.TermsNil': WHATEVER THE INPUT: true; the input reads as it did. -/
def termsNilSpec : ChangeSpec := { name := "termsNil", fn := fun _ => fun
  | [d1, d2] => { results := [.lit (.bool true)], args := [d1, d2] }
  | _ => none }
def termsNilRow : OpenClaim := { program := "ythhlamehbcidgaa", sum := "e106ca79d45764c99253bb24e28309499abe1241d344c1c60a17043f2f62f4eb", func := "eggbox/eggboxlaw19.TermsNil", spec := "termsNil", inPlace := ["internal/bytealg.IndexByteString"], unfollowed := true, recurses := true, plainKeys := false, apart := false }
def TermsNilSaid : Prop := termsNilRow.holds Try.pinned (OpenSpec.ofChange termsNilSpec)

/-- ITS FALSE NEIGHBOUR: 'it returns false'. Refute it at one input. -/
def termsNilWrong : ChangeSpec := { name := "termsNil", fn := fun _ => fun
  | [d1, d2] => { results := [.lit (.bool false)], args := [d1, d2] }
  | _ => none }
def TermsNilWrongFalsely : Prop := termsNilRow.holds Try.pinned (OpenSpec.ofChange termsNilWrong)

/-- 'eggboxlaw19.TermsBack': WHATEVER THE INPUT: true; the input reads as it did. -/
def termsBackSpec : ChangeSpec := { name := "termsBack", fn := fun _ => fun
  | [d1, d2] => { results := [.lit (.bool true)], args := [d1, d2] }
  | _ => none }
def termsBackRow : OpenClaim := { program := "ythhlamehbcidgaa", sum := "e106ca79d45764c99253bb24e28309499abe1241d344c1c60a17043f2f62f4eb", func := "eggbox/eggboxlaw19.TermsBack", spec := "termsBack", inPlace := ["internal/bytealg.IndexByteString"], unfollowed := true, recurses := true, plainKeys := false, apart := false }
def TermsBackSaid : Prop := termsBackRow.holds Try.pinned (OpenSpec.ofChange termsBackSpec)

/-- ITS FALSE NEIGHBOUR: 'it returns false'. Refute it at one input. -/
def termsBackWrong : ChangeSpec := { name := "termsBack", fn := fun _ => fun
  | [d1, d2] => { results := [.lit (.bool false)], args := [d1, d2] }
  | _ => none }
def TermsBackWrongFalsely : Prop := termsBackRow.holds Try.pinned (OpenSpec.ofChange termsBackWrong)

/- THE SECOND FORM. 'bulk': how many values and letters a reading holds, each counted each time it is reached (what is shared counts as often as it is met; a slice's spare places count too). A statement '..UptoSaid' is the law's where the arguments, and the package variables that the reading takes, are together of bulk at most 1048576: NARROWER than '..Said'. Prove '..Said' where nothing that the law and all that it calls make is longer than what came in: it says more and counts as full. Else prove '..UptoSaid'. A law counts once. -/
mutual
def uptoBulk {H : Type} : DataW H → Nat
  | .lit (.string bytes) => bytes.length + 1
  | .lit _ => 1
  | .nil => 1
  | .ptr d => uptoBulk d + 1
  | .slice elems spare => uptoBulkAll elems + uptoBulkAll spare + 1
  | .agg parts => uptoBulkAll parts + 1
  | .iface _ d => uptoBulk d + 1
  | .map entries => uptoBulkEntries entries + 1
  | .held _ => 1
def uptoBulkAll {H : Type} : List (DataW H) → Nat
  | [] => 0
  | d :: r => uptoBulk d + uptoBulkAll r
def uptoBulkEntries {H : Type} : List (Lit × DataW H) → Nat
  | [] => 0
  | x :: r => uptoBulkEntry x + uptoBulkEntries r
def uptoBulkEntry {H : Type} : Lit × DataW H → Nat
  | (.string bytes, d) => bytes.length + uptoBulk d + 1
  | (_, d) => uptoBulk d + 1
 end
def uptoSmall : (H : Type) → List (DataW H) → Bool := fun _ ds => decide (uptoBulkAll ds ≤ 1048576)
def OpenSpec.upto (s : _root_.Go.ChangeSpec) : _root_.Go.OpenSpec := { _root_.Go.OpenSpec.ofChange s with cond := some uptoSmall }

/-- 'eggboxlaw19.TermsParses', WHERE WHAT IT READS IS OF BULK AT MOST 1048576: true; the input reads as it did. -/
def termsParsesUptoRow : OpenClaim := { program := "ythhlamehbcidgaa", sum := "e106ca79d45764c99253bb24e28309499abe1241d344c1c60a17043f2f62f4eb", func := "eggbox/eggboxlaw19.TermsParses", spec := "termsParses", inPlace := ["internal/bytealg.IndexByteString"], unfollowed := true, recurses := true, plainKeys := false, apart := false, narrowed := true }
def TermsParsesUptoSaid : Prop := termsParsesUptoRow.holds Try.pinned (OpenSpec.upto termsParsesSpec)

/-- 'eggboxlaw19.TermsPrints', WHERE WHAT IT READS IS OF BULK AT MOST 1048576: true; the input reads as it did. -/
def termsPrintsUptoRow : OpenClaim := { program := "ythhlamehbcidgaa", sum := "e106ca79d45764c99253bb24e28309499abe1241d344c1c60a17043f2f62f4eb", func := "eggbox/eggboxlaw19.TermsPrints", spec := "termsPrints", inPlace := ["internal/bytealg.IndexByteString"], unfollowed := true, recurses := true, plainKeys := false, apart := false, narrowed := true }
def TermsPrintsUptoSaid : Prop := termsPrintsUptoRow.holds Try.pinned (OpenSpec.upto termsPrintsSpec)

/-- 'eggboxlaw19.TermsWords', WHERE WHAT IT READS IS OF BULK AT MOST 1048576: true; the input reads as it did. -/
def termsWordsUptoRow : OpenClaim := { program := "ythhlamehbcidgaa", sum := "e106ca79d45764c99253bb24e28309499abe1241d344c1c60a17043f2f62f4eb", func := "eggbox/eggboxlaw19.TermsWords", spec := "termsWords", inPlace := ["internal/bytealg.IndexByteString", "internal/abi.NoEscape", "internal/bytealg.MakeNoZero"], unfollowed := true, recurses := true, plainKeys := false, apart := false, narrowed := true }
def TermsWordsUptoSaid : Prop := termsWordsUptoRow.holds Try.pinned (OpenSpec.upto termsWordsSpec)

/-- 'eggboxlaw19.TermsNil', WHERE WHAT IT READS IS OF BULK AT MOST 1048576: true; the input reads as it did. -/
def termsNilUptoRow : OpenClaim := { program := "ythhlamehbcidgaa", sum := "e106ca79d45764c99253bb24e28309499abe1241d344c1c60a17043f2f62f4eb", func := "eggbox/eggboxlaw19.TermsNil", spec := "termsNil", inPlace := ["internal/bytealg.IndexByteString"], unfollowed := true, recurses := true, plainKeys := false, apart := false, narrowed := true }
def TermsNilUptoSaid : Prop := termsNilUptoRow.holds Try.pinned (OpenSpec.upto termsNilSpec)

/-- 'eggboxlaw19.TermsBack', WHERE WHAT IT READS IS OF BULK AT MOST 1048576: true; the input reads as it did. -/
def termsBackUptoRow : OpenClaim := { program := "ythhlamehbcidgaa", sum := "e106ca79d45764c99253bb24e28309499abe1241d344c1c60a17043f2f62f4eb", func := "eggbox/eggboxlaw19.TermsBack", spec := "termsBack", inPlace := ["internal/bytealg.IndexByteString"], unfollowed := true, recurses := true, plainKeys := false, apart := false, narrowed := true }
def TermsBackUptoSaid : Prop := termsBackUptoRow.holds Try.pinned (OpenSpec.upto termsBackSpec)

end Rows
end Go.Proofs.Ythhlamehbcidgaa
