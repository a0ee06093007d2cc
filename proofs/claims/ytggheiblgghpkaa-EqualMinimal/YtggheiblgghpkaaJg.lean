/- Run and Accepts, program and document. -/
import Derived.Test.YtggheiblgghpkaaJf
namespace Go.Proofs.Ytggheiblgghpkaa
open Go Go.RowKit Go.Lib
set_option linter.unusedVariables false

theorem runE_bad {A : Aut} (h : chkA A = 80) (s : Int) (b : ByteArray) : runE A s b = 80 ∧ runV A s b = 0 := by
  have e : runE A s b = 80 := by unfold runE; rw [if_neg (by rw [h]; decide)]
  exact ⟨e, by unfold runV; rw [if_neg (by rw [e]; decide)]⟩
theorem runE_range {A : Aut} (h : chkA A = 0) {s : Int} (hs : s < 0 ∨ A.ac.length ≤ s) (b : ByteArray) : runE A s b = 11 ∧ runV A s b = 0 := by
  have e : runE A s b = 11 := by unfold runE; rw [if_pos h, if_pos hs]
  exact ⟨e, by unfold runV; rw [if_neg (by rw [e]; decide)]⟩
theorem runE_in {A : Aut} (h : chkA A = 0) {s : Int} (hs : ¬ (s < 0 ∨ A.ac.length ≤ s)) (b : ByteArray) : runE A s b = chk A.k b := by unfold runE; rw [if_pos h, if_neg hs]

theorem accV_no {A : Aut} {b : ByteArray} (h : cwE A b ≠ 0) : accV A b = false := by unfold accV; rw [if_neg h]
theorem cwE_run {A : Aut} {b : ByteArray} : runE A 0 b = cwE A b := by
  unfold runE cwE
  rcases chkA_cases A with ⟨hG, hc⟩ | ⟨hG, hc⟩
  · rw [if_pos hc, if_pos hc, if_neg (by have := hG.n1; omega)]
  · rw [if_neg (by rw [hc]; decide), if_neg (by rw [hc]; decide)]
theorem cwE_good {A : Aut} {b : ByteArray} (h : cwE A b = 0) : Good A ∧ Lts A.k b := by
  unfold cwE at h
  split at h
  · rename_i h2
    exact ⟨chkA_good h2, chk_all h⟩
  · cases h

end Go.Proofs.Ytggheiblgghpkaa
