/- Contract of the document's depth: of a tree, as the stack tells it. -/
import Derived.Test.YtfdkkiecibdblaaDoorTr
import Derived.Test.YtfdkkiecibdblaaDoorTs
namespace Go.Proofs.YtfdkkiecibdblaaDoor
open Go.RowKit

/-- The weight that the document's depth counts. -/
def wtB (st : Bool) (n : Nd) : Nat := if st then wtS n else 1
theorem wtB_le (st : Bool) (n : Nd) : wtB st n ≤ 1 := by unfold wtB; cases st; exact Nat.le_refl _; exact wtS_le n
theorem fold_start (l : List Nat) : ∀ x, l.foldl max x = max x (l.foldl max 0) := by
  induction l with
  | nil => intro x; simp
  | cons a l ih => intro x; simp only [List.foldl_cons]; rw [ih (max x a), ih (max 0 a)]; omega
theorem fold_back (l : List Nat) : l.reverse.foldl max 0 = l.foldl max 0 := by
  induction l with
  | nil => rfl
  | cons a l ih => rw [List.reverse_cons, List.foldl_append, ih]; simp only [List.foldl_cons, List.foldl_nil]; rw [fold_start l (max 0 a)]; omega
theorem back_get (F : List Nat) (p t : Nat) (hp : p ≤ F.length) (ht : t < F.length - p) : (F.drop p).reverse.getD t 0 = F.getD (F.length - 1 - t) 0 := by
  rw [List.getD_eq_getElem?_getD, List.getElem?_reverse (by simp; omega), List.getElem?_drop, List.getD_eq_getElem?_getD]
  congr 2
  simp
  omega

end Go.Proofs.YtfdkkiecibdblaaDoor
