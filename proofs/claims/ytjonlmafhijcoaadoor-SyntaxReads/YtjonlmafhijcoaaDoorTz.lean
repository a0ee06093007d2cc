/- What tree.Parts answers for a tree, in one sentence for all kinds of roots. -/
import Derived.Test.YtjonlmafhijcoaaDoorTy
namespace Go.Proofs.YtjonlmafhijcoaaDoor
open Go Go.RowKit

end Go.Proofs.YtjonlmafhijcoaaDoor
