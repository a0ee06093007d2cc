/- What lies in a block stays there over later calls: in the form in which a walk uses it. -/
import Derived.Test.YtihjhkbbpphocaaBf
namespace Go.Proofs.Ytihjhkbbpphocaa
open Go.RowKit

/-- Block b holds the cells arr. -/
structure RowAtB (w : World) (b : Nat) (arr : Array Value) : Prop where
  lt : b < w.heap.size
  cell : ∀ o, w.cell? ⟨b, o, none⟩ = arr[o]?
theorem RowAtB.stay {w w' : World} {b : Nat} {arr : Array Value} (r : RowAtB w b arr) (h : Below w.heap.size w w') : RowAtB w' b arr :=
  ⟨Nat.lt_of_lt_of_le r.lt h.size, fun o => by rw [h.cell (p := ⟨b, o, none⟩) r.lt, r.cell]⟩
theorem RowAtB.alloc {w : World} {b : Nat} {arr : Array Value} (r : RowAtB w b arr) (O : Obj) : RowAtB (w.alloc O) b arr :=
  r.stay ((Below.refl _ _).alloc (Nat.le_refl _) O)
theorem RowAtB.step {w w' : World} {b : Nat} {arr : Array Value} {O : Obj} (r : RowAtB w b arr) (h : Below (w.alloc O).heap.size (w.alloc O) w') : RowAtB w' b arr := (r.alloc O).stay h
theorem RowAtB.last (w : World) (arr : Array Value) (t : TypeId) : RowAtB (w.alloc (.cells arr t)) w.heap.size arr :=
  ⟨by simp, fun o => by simp only [World.cell?, heap_alloc_last]; rfl⟩
theorem RowAtB.new {w w' : World} {arr : Array Value} {t : TypeId} (h : Below (w.alloc (.cells arr t)).heap.size (w.alloc (.cells arr t)) w') : RowAtB w' w.heap.size arr := (RowAtB.last w arr t).stay h
theorem RowAtB.cellA {w : World} {b : Nat} {arr : Array Value} (r : RowAtB w b arr) : ∀ O o, (w.alloc O).cell? ⟨b, o, none⟩ = arr[o]? := fun O => (r.alloc O).cell

end Go.Proofs.Ytihjhkbbpphocaa
