/- Numbers of the laws of layer 13. -/
import Derived.Test.YtihjhkbbpphocaaAv
import Derived.Test.YtihjhkbbpphocaaAo
namespace Go.Proofs.Ytihjhkbbpphocaa
open Go Go.RowKit Go.Lib
set_option linter.unusedVariables false

end Go.Proofs.Ytihjhkbbpphocaa
