/-
  No cell of these rows narrows 'for every input' (looked for: loops, veiled, ifaces, maps, wideKeys, modest, calm, conditions, laid).
  DERIVED. THE GIVEN ROWS OF THIS SEAT. 6 by the template 'for every input the law returns true; each argument reads behind the call as it read before'; 0 by the template 'total and deterministic' (their statements: YtggheiblgghpkaaTotals.lean).
  GIVEN WITH THE SEED: the statements are not yours to turn. If you find one false, say at which input.
  Laid BY PROGRAM, IN A SANDBOX (cutbox-rows.mjs): the forced cells as the released guide's own fill.sh prints them over the translation 74626a2c5877e66f… (all of the seat's roots in one cut). By AI agents, Wed Nov 11 2026. No macro, syntax, notation, axiom, sorry.
-/
import Derived.Test.YtggheiblgghpkaaChecked
import GoSem.Claim
import GoSem.ClaimJoined
import GoSem.ClaimMapViews
import Derived.JoinedTies
import Derived.KernelRfl
namespace Go.Proofs.Ytggheiblgghpkaa
/- THE CELL 'sum', in the pinned program and in every row, IS THE sha256 OF THE DUMP (.gsa) THAT YtggheiblgghpkaaProg.lean LOADS. Nothing in Lean hashes anything: it is a label: what it is worth is what the hold of that sum in a sandbox is worth. -/
noncomputable def Try.pinned : Pinned := { name := "ytggheiblgghpkaa", sum := "74626a2c5877e66f08d2e58cc957fe7a6541f25d675cccef18544907ba9e2a38", checked := Try.checked }
namespace Rows
def none {H : Type} : Left H := { results := [], args := [] }

/-- 'eggboxlaw12.EqualTells': WHATEVER THE INPUT: true; the input reads as it did. -/
def equalTellsSpec : ChangeSpec := { name := "equalTells", fn := fun _ => fun
  | [d1, d2] => { results := [.lit (.bool true)], args := [d1, d2] }
  | _ => none }
def equalTellsRow : OpenClaim := { program := "ytggheiblgghpkaa", sum := "74626a2c5877e66f08d2e58cc957fe7a6541f25d675cccef18544907ba9e2a38", func := "eggbox/eggboxlaw12.EqualTells", spec := "equalTells", unfollowed := true, recurses := true, plainKeys := false, apart := false }
def EqualTellsSaid : Prop := equalTellsRow.holds Try.pinned (OpenSpec.ofChange equalTellsSpec)

/-- ITS FALSE NEIGHBOUR: 'it returns false'. Refute it at one input. -/
def equalTellsWrong : ChangeSpec := { name := "equalTells", fn := fun _ => fun
  | [d1, d2] => { results := [.lit (.bool false)], args := [d1, d2] }
  | _ => none }
def EqualTellsWrongFalsely : Prop := equalTellsRow.holds Try.pinned (OpenSpec.ofChange equalTellsWrong)

/-- 'eggboxlaw12.EqualWords': WHATEVER THE INPUT: true; the input reads as it did. -/
def equalWordsSpec : ChangeSpec := { name := "equalWords", fn := fun _ => fun
  | [d1, d2] => { results := [.lit (.bool true)], args := [d1, d2] }
  | _ => none }
def equalWordsRow : OpenClaim := { program := "ytggheiblgghpkaa", sum := "74626a2c5877e66f08d2e58cc957fe7a6541f25d675cccef18544907ba9e2a38", func := "eggbox/eggboxlaw12.EqualWords", spec := "equalWords", unfollowed := true, recurses := true, plainKeys := false, apart := false }
def EqualWordsSaid : Prop := equalWordsRow.holds Try.pinned (OpenSpec.ofChange equalWordsSpec)

/-- ITS FALSE NEIGHBOUR: 'it returns false'. Refute it at one input. -/
def equalWordsWrong : ChangeSpec := { name := "equalWords", fn := fun _ => fun
  | [d1, d2] => { results := [.lit (.bool false)], args := [d1, d2] }
  | _ => none }
def EqualWordsWrongFalsely : Prop := equalWordsRow.holds Try.pinned (OpenSpec.ofChange equalWordsWrong)

/-- 'eggboxlaw12.EqualTogether': WHATEVER THE INPUT: true; the input reads as it did. -/
def equalTogetherSpec : ChangeSpec := { name := "equalTogether", fn := fun _ => fun
  | [d1, d2] => { results := [.lit (.bool true)], args := [d1, d2] }
  | _ => none }
def equalTogetherRow : OpenClaim := { program := "ytggheiblgghpkaa", sum := "74626a2c5877e66f08d2e58cc957fe7a6541f25d675cccef18544907ba9e2a38", func := "eggbox/eggboxlaw12.EqualTogether", spec := "equalTogether", inPlace := ["internal/bytealg.abigen_runtime_cmpstring"], unfollowed := true, recurses := true, plainKeys := false, apart := false }
def EqualTogetherSaid : Prop := equalTogetherRow.holds Try.pinned (OpenSpec.ofChange equalTogetherSpec)

/-- ITS FALSE NEIGHBOUR: 'it returns false'. Refute it at one input. -/
def equalTogetherWrong : ChangeSpec := { name := "equalTogether", fn := fun _ => fun
  | [d1, d2] => { results := [.lit (.bool false)], args := [d1, d2] }
  | _ => none }
def EqualTogetherWrongFalsely : Prop := equalTogetherRow.holds Try.pinned (OpenSpec.ofChange equalTogetherWrong)

/-- 'eggboxlaw12.EqualBounds': WHATEVER THE INPUT: true; the input reads as it did. -/
def equalBoundsSpec : ChangeSpec := { name := "equalBounds", fn := fun _ => fun
  | [d1, d2, d3] => { results := [.lit (.bool true)], args := [d1, d2, d3] }
  | _ => none }
def equalBoundsRow : OpenClaim := { program := "ytggheiblgghpkaa", sum := "74626a2c5877e66f08d2e58cc957fe7a6541f25d675cccef18544907ba9e2a38", func := "eggbox/eggboxlaw12.EqualBounds", spec := "equalBounds", inPlace := ["internal/bytealg.abigen_runtime_cmpstring"], unfollowed := true, recurses := true, plainKeys := false, apart := false }
def EqualBoundsSaid : Prop := equalBoundsRow.holds Try.pinned (OpenSpec.ofChange equalBoundsSpec)

/-- ITS FALSE NEIGHBOUR: 'it returns false'. Refute it at one input. -/
def equalBoundsWrong : ChangeSpec := { name := "equalBounds", fn := fun _ => fun
  | [d1, d2, d3] => { results := [.lit (.bool false)], args := [d1, d2, d3] }
  | _ => none }
def EqualBoundsWrongFalsely : Prop := equalBoundsRow.holds Try.pinned (OpenSpec.ofChange equalBoundsWrong)

/-- 'eggboxlaw12.EqualLaws': WHATEVER THE INPUT: true; the input reads as it did. -/
def equalLawsSpec : ChangeSpec := { name := "equalLaws", fn := fun _ => fun
  | [d1, d2, d3] => { results := [.lit (.bool true)], args := [d1, d2, d3] }
  | _ => none }
def equalLawsRow : OpenClaim := { program := "ytggheiblgghpkaa", sum := "74626a2c5877e66f08d2e58cc957fe7a6541f25d675cccef18544907ba9e2a38", func := "eggbox/eggboxlaw12.EqualLaws", spec := "equalLaws", unfollowed := true, recurses := true, plainKeys := false, apart := false }
def EqualLawsSaid : Prop := equalLawsRow.holds Try.pinned (OpenSpec.ofChange equalLawsSpec)

/-- ITS FALSE NEIGHBOUR: 'it returns false'. Refute it at one input. -/
def equalLawsWrong : ChangeSpec := { name := "equalLaws", fn := fun _ => fun
  | [d1, d2, d3] => { results := [.lit (.bool false)], args := [d1, d2, d3] }
  | _ => none }
def EqualLawsWrongFalsely : Prop := equalLawsRow.holds Try.pinned (OpenSpec.ofChange equalLawsWrong)

/-- 'eggboxlaw12.EqualMinimal': WHATEVER THE INPUT: true; the input reads as it did. -/
def equalMinimalSpec : ChangeSpec := { name := "equalMinimal", fn := fun _ => fun
  | [d1, d2] => { results := [.lit (.bool true)], args := [d1, d2] }
  | _ => none }
def equalMinimalRow : OpenClaim := { program := "ytggheiblgghpkaa", sum := "74626a2c5877e66f08d2e58cc957fe7a6541f25d675cccef18544907ba9e2a38", func := "eggbox/eggboxlaw12.EqualMinimal", spec := "equalMinimal", unfollowed := true, recurses := true, plainKeys := false, apart := false }
def EqualMinimalSaid : Prop := equalMinimalRow.holds Try.pinned (OpenSpec.ofChange equalMinimalSpec)

/-- ITS FALSE NEIGHBOUR: 'it returns false'. Refute it at one input. -/
def equalMinimalWrong : ChangeSpec := { name := "equalMinimal", fn := fun _ => fun
  | [d1, d2] => { results := [.lit (.bool false)], args := [d1, d2] }
  | _ => none }
def EqualMinimalWrongFalsely : Prop := equalMinimalRow.holds Try.pinned (OpenSpec.ofChange equalMinimalWrong)

/- THE SECOND FORM. 'bulk': how many values and letters a reading holds, each counted each time it is reached (what is shared counts as often as it is met; a slice's spare places count too). A statement '..UptoSaid' is the law's where the arguments, and the package variables that the reading takes, are together of bulk at most 1048576: NARROWER than '..Said'. Prove '..Said' where nothing that the law and all that it calls make is longer than what came in: it says more and counts as full. Else prove '..UptoSaid'. A law counts once. -/
mutual
def uptoBulk {H : Type} : DataW H → Nat
  | .lit (.string bytes) => bytes.length + 1
  | .lit _ => 1
  | .nil => 1
  | .ptr d => uptoBulk d + 1
  | .slice elems spare => uptoBulkAll elems + uptoBulkAll spare + 1
  | .agg parts => uptoBulkAll parts + 1
  | .iface _ d => uptoBulk d + 1
  | .map entries => uptoBulkEntries entries + 1
  | .held _ => 1
def uptoBulkAll {H : Type} : List (DataW H) → Nat
  | [] => 0
  | d :: r => uptoBulk d + uptoBulkAll r
def uptoBulkEntries {H : Type} : List (Lit × DataW H) → Nat
  | [] => 0
  | x :: r => uptoBulkEntry x + uptoBulkEntries r
def uptoBulkEntry {H : Type} : Lit × DataW H → Nat
  | (.string bytes, d) => bytes.length + uptoBulk d + 1
  | (_, d) => uptoBulk d + 1
 end
def uptoSmall : (H : Type) → List (DataW H) → Bool := fun _ ds => decide (uptoBulkAll ds ≤ 1048576)
def OpenSpec.upto (s : _root_.Go.ChangeSpec) : _root_.Go.OpenSpec := { _root_.Go.OpenSpec.ofChange s with cond := some uptoSmall }

/-- 'eggboxlaw12.EqualTells', WHERE WHAT IT READS IS OF BULK AT MOST 1048576: true; the input reads as it did. -/
def equalTellsUptoRow : OpenClaim := { program := "ytggheiblgghpkaa", sum := "74626a2c5877e66f08d2e58cc957fe7a6541f25d675cccef18544907ba9e2a38", func := "eggbox/eggboxlaw12.EqualTells", spec := "equalTells", unfollowed := true, recurses := true, plainKeys := false, apart := false, narrowed := true }
def EqualTellsUptoSaid : Prop := equalTellsUptoRow.holds Try.pinned (OpenSpec.upto equalTellsSpec)

/-- 'eggboxlaw12.EqualWords', WHERE WHAT IT READS IS OF BULK AT MOST 1048576: true; the input reads as it did. -/
def equalWordsUptoRow : OpenClaim := { program := "ytggheiblgghpkaa", sum := "74626a2c5877e66f08d2e58cc957fe7a6541f25d675cccef18544907ba9e2a38", func := "eggbox/eggboxlaw12.EqualWords", spec := "equalWords", unfollowed := true, recurses := true, plainKeys := false, apart := false, narrowed := true }
def EqualWordsUptoSaid : Prop := equalWordsUptoRow.holds Try.pinned (OpenSpec.upto equalWordsSpec)

/-- 'eggboxlaw12.EqualTogether', WHERE WHAT IT READS IS OF BULK AT MOST 1048576: true; the input reads as it did. -/
def equalTogetherUptoRow : OpenClaim := { program := "ytggheiblgghpkaa", sum := "74626a2c5877e66f08d2e58cc957fe7a6541f25d675cccef18544907ba9e2a38", func := "eggbox/eggboxlaw12.EqualTogether", spec := "equalTogether", inPlace := ["internal/bytealg.abigen_runtime_cmpstring"], unfollowed := true, recurses := true, plainKeys := false, apart := false, narrowed := true }
def EqualTogetherUptoSaid : Prop := equalTogetherUptoRow.holds Try.pinned (OpenSpec.upto equalTogetherSpec)

/-- 'eggboxlaw12.EqualBounds', WHERE WHAT IT READS IS OF BULK AT MOST 1048576: true; the input reads as it did. -/
def equalBoundsUptoRow : OpenClaim := { program := "ytggheiblgghpkaa", sum := "74626a2c5877e66f08d2e58cc957fe7a6541f25d675cccef18544907ba9e2a38", func := "eggbox/eggboxlaw12.EqualBounds", spec := "equalBounds", inPlace := ["internal/bytealg.abigen_runtime_cmpstring"], unfollowed := true, recurses := true, plainKeys := false, apart := false, narrowed := true }
def EqualBoundsUptoSaid : Prop := equalBoundsUptoRow.holds Try.pinned (OpenSpec.upto equalBoundsSpec)

/-- 'eggboxlaw12.EqualLaws', WHERE WHAT IT READS IS OF BULK AT MOST 1048576: true; the input reads as it did. -/
def equalLawsUptoRow : OpenClaim := { program := "ytggheiblgghpkaa", sum := "74626a2c5877e66f08d2e58cc957fe7a6541f25d675cccef18544907ba9e2a38", func := "eggbox/eggboxlaw12.EqualLaws", spec := "equalLaws", unfollowed := true, recurses := true, plainKeys := false, apart := false, narrowed := true }
def EqualLawsUptoSaid : Prop := equalLawsUptoRow.holds Try.pinned (OpenSpec.upto equalLawsSpec)

/-- 'eggboxlaw12.EqualMinimal', WHERE WHAT IT READS IS OF BULK AT MOST 1048576: true; the input reads as it did. -/
def equalMinimalUptoRow : OpenClaim := { program := "ytggheiblgghpkaa", sum := "74626a2c5877e66f08d2e58cc957fe7a6541f25d675cccef18544907ba9e2a38", func := "eggbox/eggboxlaw12.EqualMinimal", spec := "equalMinimal", unfollowed := true, recurses := true, plainKeys := false, apart := false, narrowed := true }
def EqualMinimalUptoSaid : Prop := equalMinimalUptoRow.holds Try.pinned (OpenSpec.upto equalMinimalSpec)

end Rows
end Go.Proofs.Ytggheiblgghpkaa
