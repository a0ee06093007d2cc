/- More of the laws of layer 13: a list that is handed in stays; a transformation of made numbers. -/
import Derived.Test.YtihjhkbbpphocaaAw
namespace Go.Proofs.Ytihjhkbbpphocaa
open Go Go.RowKit Go.Lib
set_option linter.unusedVariables false

theorem Reads.below {W w : World} {v : Value} {xs : List Int} (h : Reads W v xs) (hb : Below W.heap.size W w) : Reads w v xs := by
  obtain ⟨a, cap, rfl, hr⟩ := h
  refine ⟨a, cap, rfl, fun i hi => ?_⟩
  obtain ⟨g, o, e, hg, hc⟩ := hr i hi
  exact ⟨g, o, e, Nat.lt_of_lt_of_le hg hb.size, by rw [below_cell hb hg]; exact hc⟩
theorem cmp_same {l m : List Nat} (hl : Tf l) (hm : Tf m) (h : l = m) : sameL l m = true := (sameL_iff hl hm).2 h
end Go.Proofs.Ytihjhkbbpphocaa
