/- Pure: Moore's rounds have an end after as many rounds as there are states, less two. -/
import Derived.Test.YtggheiblgghpkaaMi
namespace Go.Proofs.Ytggheiblgghpkaa
set_option linter.unusedVariables false
attribute [-instance] instBEqProd

theorem getD_ext {l m : List Nat} (h : l.length = m.length) (h2 : ∀ i, i < l.length → l.getD i 0 = m.getD i 0) : l = m := list_eq_of h h2
theorem lvl_one (A : Aut) (h : reps A.ac.length (lvl A 0) < 2) : lvl A 1 = lvl A 0 := by
  have c0 := lvl_cls A 0
  have c1 := lvl_cls A 1
  have hz : ∀ s, s < A.ac.length → (lvl A 0).getD s 0 = 0 := by
    intro s hs
    apply Classical.byContradiction
    intro q
    have hr := c0.le s hs
    have h0 : (lvl A 0).getD 0 0 = 0 := by have := c0.le 0 (by omega); omega
    have hm : ((List.range A.ac.length).filter fun x => decide (x = 0)).length < reps A.ac.length (lvl A 0) := by
      unfold reps
      refine filter_strict (p := fun x => decide (x = 0)) (q := fun x => decide ((lvl A 0).getD x 0 = x)) (fun x hx => ?_) _ ((lvl A 0).getD s 0) (List.mem_range.2 (by omega)) (decide_eq_false q) (decide_eq_true (c0.idem s hs))
      have := of_decide_eq_true hx
      subst this
      exact decide_eq_true h0
    have hp : 0 < ((List.range A.ac.length).filter fun x => decide (x = 0)).length := List.length_pos_of_mem (List.mem_filter.2 ⟨List.mem_range.2 (show 0 < A.ac.length by omega), rfl⟩)
    omega
  refine getD_ext (by rw [lvl_len, lvl_len]) fun i hi => ?_
  rw [lvl_len] at hi
  rw [hz i hi]
  have hsame : sg A (lvl A 0) i = sg A (lvl A 0) 0 := by
    have all : ∀ x, (lvl A 0).getD x 0 = 0 := fun x => by
      by_cases hx : x < A.ac.length
      · exact hz x hx
      · rw [List.getD_eq_getElem?_getD, List.getElem?_eq_none (by rw [lvl_len]; omega)]; rfl
    unfold sg
    refine Prod.ext (by rw [all, all]) (List.map_congr_left fun c _ => by rw [all, all])
  have := (lst_eq (sg A (lvl A 0)) hi (show 0 < A.ac.length by omega)).2 hsame
  have h1 : (lvl A 1).getD i 0 = (lvl A 1).getD 0 0 := this
  rw [h1]
  have := c1.le 0 (by omega)
  omega
theorem lvl_last (A : Aut) {N : Nat} (h : A.ac.length ≤ N + 2) {m : Nat} (hm : N ≤ m) : lvl A m = lvl A N := by
  by_cases q : reps A.ac.length (lvl A 0) < 2
  · have e := lvl_one A q
    rw [lvl_stable' A e (Nat.zero_le m), lvl_stable' A e (Nat.zero_le N)]
  · exact lvl_stable' A (lvl_fix A (by omega)) hm
/-- What each level tells of the next. -/
theorem lvl_step (A : Aut) (n : Nat) {s : Nat} (hs : s < A.ac.length) : (lvl A n).getD s 0 ≤ s ∧ (lvl A (n + 1)).getD s 0 ≤ s ∧ (lvl A n).getD s 0 ≤ (lvl A (n + 1)).getD s 0 ∧ (lvl A n).getD ((lvl A (n + 1)).getD s 0) 0 = (lvl A n).getD s 0 := by
  have c1 := lvl_cls A n
  have c2 := lvl_cls A (n + 1)
  have h2 := c2.le s hs
  have hf := lvl_finer A n (s := (lvl A (n + 1)).getD s 0) (t := s) (by omega) hs (c2.idem s hs)
  have h3 := c1.le ((lvl A (n + 1)).getD s 0) (by omega)
  exact ⟨c1.le s hs, h2, by rw [← hf]; exact h3, hf⟩
/-- The examples' automaton: words of odd length. -/
def odA : Aut := ⟨1, [1, 2, 3, 2], [false, true, false, true]⟩
theorem od_lvl : lvl odA 4 = [0, 1, 0, 1] := by decide +kernel
theorem od_bfs : bfs (fun s c => ([0, 1, 0, 1] : List Nat).getD (dN odA s c) 0) 1 0 = some ([0, 1], [1, 0]) := by decide +kernel
end Go.Proofs.Ytggheiblgghpkaa
