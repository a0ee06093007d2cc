/- What lies in a block stays there over later calls: in the form in which a walk uses it. -/
import Derived.Test.YtfdkkiecibdblaaDoorBf
namespace Go.Proofs.YtfdkkiecibdblaaDoor
open Go.RowKit

theorem RowAt.step {w w' : World} {b : Nat} {arr : Array Value} {O : Obj} (r : RowAt w b arr) (h : Below (w.alloc O).heap.size (w.alloc O) w') : RowAt w' b arr := (r.alloc O).stay h
theorem RowAt.new {w w' : World} {arr : Array Value} {t : TypeId} (h : Below (w.alloc (.cells arr t)).heap.size (w.alloc (.cells arr t)) w') : RowAt w' w.heap.size arr := (RowAt.last w arr t).stay h
theorem RowAt.cellA {w : World} {b : Nat} {arr : Array Value} (r : RowAt w b arr) : ∀ O o, (w.alloc O).cell? ⟨b, o, none⟩ = arr[o]? := fun O => (r.alloc O).cell

end Go.Proofs.YtfdkkiecibdblaaDoor
