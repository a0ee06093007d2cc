/- What lies in a block stays there over later calls: in the form in which a walk uses it. -/
import Derived.Test.YthglficjhgpegaaBf
namespace Go.Proofs.Ythglficjhgpegaa
open Go.RowKit

/-- Block b holds the cells arr. -/
structure RowAt (w : World) (b : Nat) (arr : Array Value) : Prop where
  lt : b < w.heap.size
  cell : ∀ o, w.cell? ⟨b, o, none⟩ = arr[o]?
theorem RowAt.stay {w w' : World} {b : Nat} {arr : Array Value} (r : RowAt w b arr) (h : Below w.heap.size w w') : RowAt w' b arr :=
  ⟨Nat.lt_of_lt_of_le r.lt h.size, fun o => by rw [h.cell (p := ⟨b, o, none⟩) r.lt, r.cell]⟩
theorem RowAt.alloc {w : World} {b : Nat} {arr : Array Value} (r : RowAt w b arr) (O : Obj) : RowAt (w.alloc O) b arr :=
  r.stay ((Below.refl _ _).alloc (Nat.le_refl _) O)
theorem RowAt.step {w w' : World} {b : Nat} {arr : Array Value} {O : Obj} (r : RowAt w b arr) (h : Below (w.alloc O).heap.size (w.alloc O) w') : RowAt w' b arr := (r.alloc O).stay h
theorem RowAt.last (w : World) (arr : Array Value) (t : TypeId) : RowAt (w.alloc (.cells arr t)) w.heap.size arr :=
  ⟨by simp, fun o => by simp only [World.cell?, heap_alloc_last]; rfl⟩
theorem RowAt.new {w w' : World} {arr : Array Value} {t : TypeId} (h : Below (w.alloc (.cells arr t)).heap.size (w.alloc (.cells arr t)) w') : RowAt w' w.heap.size arr := (RowAt.last w arr t).stay h
theorem RowAt.cellA {w : World} {b : Nat} {arr : Array Value} (r : RowAt w b arr) : ∀ O o, (w.alloc O).cell? ⟨b, o, none⟩ = arr[o]? := fun O => (r.alloc O).cell

end Go.Proofs.Ythglficjhgpegaa
