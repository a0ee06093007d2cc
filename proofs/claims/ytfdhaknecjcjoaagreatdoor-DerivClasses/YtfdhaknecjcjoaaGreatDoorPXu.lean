/- The law's knows. -/
import Derived.Test.YtfdhaknecjcjoaaGreatDoorPW
namespace Go.Proofs.YtfdhaknecjcjoaaGreatDoor
open Go Go.RowKit
set_option linter.unusedVariables false

theorem row_reads {w:World} {g:Nat} {ts:List Nd} {cap:Nat} (h:w.heap[g]?=some (.cells (ndC ts).toArray 51 (0,0))):NReads w (.slice (some ⟨g,0,none⟩) ts.length cap) ts:=by
 refine ⟨some ⟨g,0,none⟩,cap,rfl,fun i hi=>⟨g,0,rfl,(Array.getElem?_eq_some_iff.1 h).1,?_,?_⟩⟩
 ·rw [Nat.zero_add,cell_of_row _ _ _ _ _ _ h]
  have:=ndC_fst ts i hi
  simpa using this
 ·rw [Nat.zero_add,cell_of_row _ _ _ _ _ _ h]
  have:=ndC_snd ts i hi
  simpa using this

end Go.Proofs.YtfdhaknecjcjoaaGreatDoor
