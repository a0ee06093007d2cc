/- minim: the forest of states that hang together: alone, top, join. -/
import Derived.Test.YtggheiblgghpkaaLb
import Derived.Test.YtggheiblgghpkaaMc
import Derived.Deep.RegionHeld3
namespace Go.Proofs.Ytggheiblgghpkaa
open Go Go.RowKit Go.Lib
set_option linter.unusedVariables false

theorem nC_get {l : List Nat} {i : Nat} (h : i < l.length) : (nC l)[i]? = some (.int .i64 (l.getD i 0 : Nat)) := by
  simp [nC, h]

/-- Behind a call that writes into the row g alone. -/
structure OT (g : Nat) (w w' : World) : Prop where
  os : w'.os = w.os
  tape : w'.tape = w.tape
  output : w'.output = w.output
  size : w.heap.size ≤ w'.heap.size
  block : ∀ b, b < w.heap.size → b ≠ g → w'.heap[b]? = w.heap[b]?
theorem OT.refl (g : Nat) (w : World) : OT g w w := ⟨rfl, rfl, rfl, Nat.le_refl _, fun _ _ _ => rfl⟩
theorem OT.trans {g : Nat} {a b c : World} (h : OT g a b) (k : OT g b c) : OT g a c := ⟨k.os.trans h.os, k.tape.trans h.tape, k.output.trans h.output, Nat.le_trans h.size k.size, fun x hx hn => (k.block x (Nat.lt_of_lt_of_le hx h.size) hn).trans (h.block x hx hn)⟩
theorem OT.set {g : Nat} {a b : World} (h : OT g a b) (i : Nat) (v : Value) : OT g a (b.setCell ⟨g, i, none⟩ v) :=
  ⟨h.os, h.tape, h.output, by simp [World.setCell]; exact h.size, fun x hx hn => by rw [heap_set_other hn]; exact h.block x hx hn⟩
theorem OT.below {g B : Nat} {w w' : World} (h : OT g w w') (hg : B ≤ g) (hs : B ≤ w.heap.size) : Below B w w' := ⟨h.os, h.tape, h.output, h.size, fun b hb => h.block b (Nat.lt_of_lt_of_le hb hs) (by omega)⟩
theorem OT.cell {g b o : Nat} {w w' : World} (h : OT g w w') (hb : b < w.heap.size) (hn : b ≠ g) : w'.cell? ⟨b, o, none⟩ = w.cell? ⟨b, o, none⟩ := World.cell?_of_block (h.block b hb hn)

/-- What join answers and leaves. -/
def JQ (base g N : Nat) (r : Nat → Nat) (s t : Nat) (w : World) (x : Ending) (w' : World) : Prop := x = .returned (.bool (decide (r s ≠ r t))) ∧ ∃ f' e', UF N f' (if r s = r t then r else jn r s t) e' ∧ w'.ownsRow base 3 1 (.slice (some ⟨g, 0, none⟩) N N) N (nC f') ∧ OT g w w'

end Go.Proofs.Ytggheiblgghpkaa
