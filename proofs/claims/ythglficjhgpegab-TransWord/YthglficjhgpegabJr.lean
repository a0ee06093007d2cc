/- Lists that are lent and must stay; lists that are alike: the laws' LentInts, StayInts, SameInts, bools. -/
import Derived.Test.YthglficjhgpegabJq
import Derived.Laws.AppendOwnNone
import Derived.Deep.QuietTactic
namespace Go.Proofs.Ythglficjhgpegab
open Go Go.RowKit Go.Lib
set_option linter.unusedVariables false

theorem two_new (w : World) (a b : Value) (t : TypeId) : ∀ j u, [a, b][j]? = some u → (w.alloc (.cells #[a, b] t)).cell? ((⟨w.heap.size, 0, none⟩ : Addr).add j) = some u := by
  intro j u hj
  rw [Addr.add_lit, (RowAt.last w #[a, b] t).cell, Nat.zero_add]
  simpa using hj

theorem drew_twice (w : World) (q n : Nat) : (w.drewN q).drewN n = w.drewN (q + n) := by simp [World.drewN, Nat.add_assoc]
theorem drewN_below (w : World) (q : Nat) : Below w.heap.size w (w.drewN q) := ⟨rfl, rfl, rfl, Nat.le_refl _, fun _ _ => rfl⟩

theorem lent_sr {w : World} {base g cap : Nat} {xs : List Int} (ho : w.ownsRow base 3 1 (.slice (some ⟨g, 0, none⟩) (xs.length + 2) cap) (xs.length + 2) (zC (xs ++ [-77, -78]))) : SR w (some ⟨g, 0, none⟩) (zC xs) := by
  have h := own_sr ho
  intro i u hi
  exact h i u (by rw [zC_append, List.getElem?_append_left (List.getElem?_eq_some_iff.1 hi).1]; exact hi)

end Go.Proofs.Ythglficjhgpegab
