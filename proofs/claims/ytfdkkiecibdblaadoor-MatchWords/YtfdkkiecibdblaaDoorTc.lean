/- Contracts of the laws' SameNodes (of lists of nodes), of cmp's calls and of tree.Compare. -/
import Derived.Test.YtfdkkiecibdblaaDoorTa
import Derived.Deep.RegionHeld3
namespace Go.Proofs.YtfdkkiecibdblaaDoor
open Go.RowKit

/-- What cmp.Compare answers of two ints. -/
def ci (x y : Int) : Int := if x < y then -1 else if y < x then 1 else 0

/-- The order of nodes, and of lists of one length. -/
def cn (m n : Nd) : Int := if ci m.1 n.1 = 0 then ci m.2 n.2 else ci m.1 n.1
def cl : List Nd → List Nd → Int
  | m :: a, n :: b => if cn m n = 0 then cl a b else cn m n
  | _, _ => 0
/-- The order of trees. -/
def ct (a b : List Nd) : Int := if ci a.length b.length = 0 then cl a b else ci a.length b.length
theorem cl_drop {a b : List Nd} {i : Nat} (h : i < a.length) (h2 : i < b.length) : cl (a.drop i) (b.drop i) = if cn (a.getD i (0, 0)) (b.getD i (0, 0)) = 0 then cl (a.drop (i + 1)) (b.drop (i + 1)) else cn (a.getD i (0, 0)) (b.getD i (0, 0)) := by
  rw [List.drop_eq_getElem_cons h, List.drop_eq_getElem_cons h2, cl, List.getD_eq_getElem?_getD, List.getD_eq_getElem?_getD, List.getElem?_eq_getElem h, List.getElem?_eq_getElem h2]
  rfl

/-- Two blocks of two cells hold what they hold; nothing below W's end is written. -/
abbrev N2 (W : World) (p1 p2 : Nat) (l1 l2 : Array Value) (w' : World) : Prop := (∀ o, w'.cell? ⟨p1, o, none⟩ = l1[o]?) ∧ (∀ o, w'.cell? ⟨p2, o, none⟩ = l2[o]?) ∧ Below W.heap.size W w'
theorem n2_of {W : World} {p1 p2 : Nat} {l1 l2 : Array Value} (r1 : RowAt W p1 l1) (r2 : RowAt W p2 l2) {w' : World} (h : Below W.heap.size W w') : N2 W p1 p2 l1 l2 w' := ⟨(r1.stay h).cell, (r2.stay h).cell, h⟩
theorem n2_below {W : World} {p1 p2 : Nat} {l1 l2 : Array Value} {w' : World} (h : N2 W p1 p2 l1 l2 w') : Below W.heap.size W w' := h.2.2

end Go.Proofs.YtfdkkiecibdblaaDoor
