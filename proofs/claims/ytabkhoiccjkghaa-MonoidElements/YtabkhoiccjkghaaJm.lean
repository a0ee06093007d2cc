/- slices.Index of bools; slices.Backward of numbers; auto.firstWays: the first places of the states. -/
import Derived.Test.YtabkhoiccjkghaaJl
import Derived.Test.YtabkhoiccjkghaaRg
namespace Go.Proofs.Ytabkhoiccjkghaa
open Go Go.RowKit Go.Shelf Go.Lib
set_option linter.unusedVariables false

attribute [local go_sem] Oper.semAt_some

/-- What Index answers of true. -/
def ixB (bs : List Bool) : Int := if true ∈ bs then (bs.idxOf true : Int) else -1

/-- The values of round j. -/
def bwI (L : List Int) (j : Nat) : Array Value := #[.int .i64 ((L.length - 1 - j : Nat) : Int), .int .i64 (L.getD (L.length - 1 - j) 0)]

end Go.Proofs.Ytabkhoiccjkghaa
