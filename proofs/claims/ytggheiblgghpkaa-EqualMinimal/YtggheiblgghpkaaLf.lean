/- minim.apart: what it keeps in memory; its closure meet. -/
import Derived.Test.YtggheiblgghpkaaLe
import Derived.Test.YtggheiblgghpkaaMk
import Derived.Deep.AppendLies
namespace Go.Proofs.Ytggheiblgghpkaa
open Go Go.RowKit Go.Lib
set_option linter.unusedVariables false

theorem cell_news (w : World) (arr : Array Value) (t : TypeId) : ∀ (j : Nat) (u : Value), arr.toList[j]? = some u → (w.alloc (.cells arr t)).cell? ((⟨w.heap.size, 0, none⟩ : Addr).add j) = some u := by
  intro j u h
  have e : ((⟨w.heap.size, 0, none⟩ : Addr).add j) = ⟨w.heap.size, j, none⟩ := by unfold Addr.add; cases j <;> simp
  rw [e, cell_of (heap_alloc_last w (.cells arr t))]
  simpa using h

end Go.Proofs.Ytggheiblgghpkaa
