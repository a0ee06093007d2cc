/- Contracts of the document's Arity, Good and Wrong. -/
import Derived.Test.YtdmjcfecahcdnabDoorTb
namespace Go.Proofs.YtdmjcfecahcdnabDoor
open Go.RowKit

end Go.Proofs.YtdmjcfecahcdnabDoor
