/- The law's Stay: a lent automaton is as it was. -/
import Derived.Test.YtabkhoiccjkghaaJs
namespace Go.Proofs.Ytabkhoiccjkghaa
open Go Go.RowKit Go.Lib
set_option linter.unusedVariables false

/-- Two blocks' cells, and all below W, stay. -/
abbrev SB2 (W : World) (b c : Nat) (arr brr : Array Value) (w' : World) : Prop := (∀ o, w'.cell? ⟨b, o, none⟩ = arr[o]?) ∧ (∀ o, w'.cell? ⟨c, o, none⟩ = brr[o]?) ∧ Below W.heap.size W w'
theorem sb2_of {W w' : World} {b c : Nat} {arr brr : Array Value} (r : RowAt W b arr) (s : RowAt W c brr) (h : Below W.heap.size W w') : SB2 W b c arr brr w' := ⟨(r.stay h).cell, (s.stay h).cell, h⟩
theorem sb2_step {W w1 w2 : World} {b c : Nat} {arr brr : Array Value} (r : RowAt W b arr) (s : RowAt W c brr) (hb : Below w1.heap.size w1 w2) (h : SB2 W b c arr brr w1) : SB2 W b c arr brr w2 := sb2_of r s (go_on h.2.2 hb)

set_option maxHeartbeats 2000000 in
set_option maxRecDepth 100000 in
theorem stay8_any (A : Aut) (w : World) (v : Value) (h : AR w v A) (base g gc : Nat) (ba : Option Addr) (bc : Nat) (hm : A.nx.length + 2 ≤ 9223372036854775806) (hm2 : A.ac.length ≤ 9223372036854775806)
    (ho : w.ownsRow base 3 1 (.slice (some ⟨g, 0, none⟩) (A.nx.length + 2) gc) (A.nx.length + 2) (zC (A.nx ++ [-77, -78]))) (hs : SR w ba (bC A.ac)) :
    Calls Try.prog 25 #[.agg #[.int .i64 A.k, .slice (some ⟨g, 0, none⟩) A.nx.length gc, .slice ba A.ac.length bc], v] w fun e w' => e = .returned (.bool true) ∧ Below w.heap.size w w' := by
  obtain ⟨an, cn, aa, ca, rfl, h1, h2⟩ := h.is
  have HST : Hid (∀ y, Below w.heap.size w y → Calls Try.prog 47 #[.slice (some ⟨g, 0, none⟩) A.nx.length gc, .slice an A.nx.length cn] y fun e w' => e = .returned (.bool true) ∧ Below y.heap.size y w') := fun y hy => stay_any an cn A.nx y (h1.stay hy) base g gc hm (own_below ho hy)
  have HBO : Hid (∀ y, Below w.heap.size w y → Calls Try.prog 48 #[.slice ba A.ac.length bc, .slice aa A.ac.length ca] y fun e w' => e = .returned (.bool true) ∧ Below y.heap.size y w') := fun y hy => bools_any ba aa bc ca A.ac y (hs.stay hy) (h2.stay hy) hm2
  have R1 : RowAt (w.alloc (.cells #[.int .i64 A.k, .slice (some ⟨g, 0, none⟩) A.nx.length gc, .slice ba A.ac.length bc] 25)) w.heap.size #[.int .i64 A.k, .slice (some ⟨g, 0, none⟩) A.nx.length gc, .slice ba A.ac.length bc] := RowAt.last _ _ _
  have R2 := R1.alloc (.cells #[.int .i64 A.k, .slice an A.nx.length cn, .slice aa A.ac.length ca] 25)
  have R3 := RowAt.last (w.alloc (.cells #[.int .i64 A.k, .slice (some ⟨g, 0, none⟩) A.nx.length gc, .slice ba A.ac.length bc] 25)) #[.int .i64 A.k, .slice an A.nx.length cn, .slice aa A.ac.length ca] 25
  rw [World.size_alloc] at R3
  have HR2 : Hid _ := R2
  have HR3 : Hid _ := R3
  have HBW : Hid (∀ O O', Below w.heap.size w ((w.alloc O).alloc O')) := fun O O' => go_on (below_new _ _) (below_new _ _)
  clear h h1 h2 ho hs R1 R2 R3
  go_enter Try.func25, Try.ntmps25
  go_wp2_with (first
    | (go_at_call 47; refine (HST.out _ (HBW.out _ _)).mono ?_; rintro e y1 ⟨rfl, hy1⟩; have cs1 := (RowAt.stay HR2.out hy1).cell; have cs2 := (RowAt.stay HR3.out hy1).cell; have HY : Hid (Below w.heap.size w y1) := go_on (HBW.out _ _) hy1; clear hy1)
    | (go_at_call 48; refine (HBO.out _ HY.out).mono ?_; rintro e y2 ⟨rfl, hy2⟩; have HZ : Hid (Below w.heap.size w y2) := go_on HY.out hy2; clear hy2))
  go_ret
  exact ⟨rfl, HZ.out⟩
end Go.Proofs.Ytabkhoiccjkghaa
