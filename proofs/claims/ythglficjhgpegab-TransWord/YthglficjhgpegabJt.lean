/- The law's Stay: a lent automaton is as it was. -/
import Derived.Test.YthglficjhgpegabJs
namespace Go.Proofs.Ythglficjhgpegab
open Go Go.RowKit Go.Lib
set_option linter.unusedVariables false

/-- Two blocks' cells, and all below W, stay. -/
abbrev SB2 (W : World) (b c : Nat) (arr brr : Array Value) (w' : World) : Prop := (∀ o, w'.cell? ⟨b, o, none⟩ = arr[o]?) ∧ (∀ o, w'.cell? ⟨c, o, none⟩ = brr[o]?) ∧ Below W.heap.size W w'
theorem sb2_of {W w' : World} {b c : Nat} {arr brr : Array Value} (r : RowAt W b arr) (s : RowAt W c brr) (h : Below W.heap.size W w') : SB2 W b c arr brr w' := ⟨(r.stay h).cell, (s.stay h).cell, h⟩
theorem sb2_step {W w1 w2 : World} {b c : Nat} {arr brr : Array Value} (r : RowAt W b arr) (s : RowAt W c brr) (hb : Below w1.heap.size w1 w2) (h : SB2 W b c arr brr w1) : SB2 W b c arr brr w2 := sb2_of r s (go_on h.2.2 hb)

end Go.Proofs.Ythglficjhgpegab
