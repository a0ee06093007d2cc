/- auto.leastTo: the least word of a state, by first places. -/
import Derived.Test.YtabkhoiccjkghaaJn
import Derived.Test.YtabkhoiccjkghaaRq
namespace Go.Proofs.Ytabkhoiccjkghaa
open Go Go.RowKit Go.Lib
set_option linter.unusedVariables false

/-- Letters as bytes. -/
def lB (l : List Nat) : List UInt8 := l.map fun c => UInt8.ofNat (97 + c)
theorem lB_append (a b : List Nat) : lB (a ++ b) = lB a ++ lB b := by simp [lB]
theorem lB_len (a : List Nat) : (lB a).length = a.length := by simp [lB]

end Go.Proofs.Ytabkhoiccjkghaa
