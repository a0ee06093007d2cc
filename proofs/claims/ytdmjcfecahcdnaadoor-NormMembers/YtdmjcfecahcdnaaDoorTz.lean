/- What tree.Parts answers for a tree, in one sentence for all kinds of roots. -/
import Derived.Test.YtdmjcfecahcdnaaDoorTy
namespace Go.Proofs.YtdmjcfecahcdnaaDoor
open Go Go.RowKit

end Go.Proofs.YtdmjcfecahcdnaaDoor
