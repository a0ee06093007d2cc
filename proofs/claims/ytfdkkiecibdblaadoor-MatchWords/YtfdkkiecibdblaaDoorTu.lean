/- Contracts of the document's Depth, Stars and Check, and of tree.Check. -/
import Derived.Test.YtfdkkiecibdblaaDoorTt
import Derived.Test.YtfdkkiecibdblaaDoorTh
namespace Go.Proofs.YtfdkkiecibdblaaDoor
open Go.RowKit

theorem wrong_zero {ts : List Nd} (h : wrong ts = 0) : ts.length ≤ 4000 ∧ freeN ts = some 1 := by
  unfold wrong at h
  split at h
  · omega
  · split at h
    · rename_i h1 h2; exact ⟨by omega, h2⟩
    · omega
theorem good_all {ts : List Nd} (hf : freeN ts = some 1) {i : Nat} (hi : i < ts.length) : good (ts.getD i (0, 0)) = true := by
  obtain ⟨_, _, hg, _⟩ := free_good hf hi
  exact hg
/-- A letter that is none of the first k. -/
def farL (k : Int) (n : Nd) : Bool := decide (n.1 = 3 ∧ 97 + k ≤ n.2)
/-- What Check answers. -/
def checkV (k : Int) (ts : List Nd) : Int :=
  if k < 1 ∨ 8 < k then 20 else if wrong ts ≠ 0 then wrong ts else if 128 < (heavyN (fun _ => 1) ts).getD 0 0 then 31 else if ts.any (farL k) then 21 else 0
theorem any_at {ts : List Nd} {k : Int} {i : Nat} (h : i < ts.length) (hx : farL k (ts.getD i (0, 0)) = true) : ts.any (farL k) = true := by
  rw [List.any_eq_true]
  refine ⟨ts[i], List.getElem_mem h, ?_⟩
  rw [List.getD_eq_getElem?_getD, List.getElem?_eq_getElem h] at hx
  exact hx
theorem any_none {ts : List Nd} {k : Int} (h : ∀ j, j < ts.length → farL k (ts.getD j (0, 0)) = false) : ts.any (farL k) = false := by
  rw [List.any_eq_false]
  intro x hx
  obtain ⟨j, hj, rfl⟩ := List.mem_iff_getElem.1 hx
  have := h j hj
  rw [List.getD_eq_getElem?_getD, List.getElem?_eq_getElem hj] at this
  simpa using this

end Go.Proofs.YtfdkkiecibdblaaDoor
