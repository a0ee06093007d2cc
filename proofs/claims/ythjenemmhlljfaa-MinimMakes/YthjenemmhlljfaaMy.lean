/- The document's Minimal: the numbers of the classes that were met, and 1. -/
import Derived.Test.YthjenemmhlljfaaMx
namespace Go.Proofs.Ythjenemmhlljfaa
open Go Go.RowKit Go.Lib
set_option linter.unusedVariables false

def nuC (m : List Nat) (N : Nat) : List Value := (List.range N).map fun t => .int .i64 (nmI m t + 1)
theorem nuC_len (m : List Nat) (N : Nat) : (nuC m N).length = N := by simp [nuC]
theorem nuC_at {m : List Nat} {N t : Nat} (h : t < N) : (nuC m N)[t]? = some (.int .i64 (nmI m t + 1)) := by simp [nuC, h]
theorem nmI_zero {m : List Nat} {t : Nat} : nmI m t + 1 = 0 ↔ t ∉ m := by
  unfold nmI
  split <;> rename_i q
  · exact ⟨fun e => by omega, fun e => absurd q e⟩
  · exact ⟨fun _ => q, fun _ => by omega⟩
theorem nmI_le {m : List Nat} {t : Nat} : 0 ≤ nmI m t + 1 ∧ nmI m t + 1 ≤ m.length := by
  unfold nmI
  split <;> rename_i q
  · have := List.idxOf_lt_length_iff.mpr q
    omega
  · omega
theorem nuC_set {m : List Nat} {N t : Nat} (h : t < N) (hm : t ∉ m) : (nuC m N).set t (.int .i64 ((m.length : Int) + 1)) = nuC (m ++ [t]) N := by
  apply List.ext_getElem?
  intro j
  rw [List.getElem?_set]
  by_cases e : t = j
  · subst e
    rw [if_pos rfl, if_pos (by simpa [nuC] using h), nuC_at h]
    unfold nmI
    rw [if_pos (by simp), List.idxOf_append, if_neg hm]
    simp
  · rw [if_neg e]
    by_cases hj : j < N
    · rw [nuC_at hj, nuC_at hj]
      unfold nmI
      by_cases q : j ∈ m
      · rw [if_pos q, if_pos (by simp [q]), List.idxOf_append, if_pos q]
      · rw [if_neg q, if_neg (by simp [q]; exact fun x => e x.symm)]
    · rw [List.getElem?_eq_none (by simp [nuC]; omega), List.getElem?_eq_none (by simp [nuC]; omega)]
theorem nuC_first {N : Nat} (h : 0 < N) : (List.replicate N (Value.int .i64 0)).set 0 (.int .i64 1) = nuC [0] N := by
  apply List.ext_getElem?
  intro j
  rw [List.getElem?_set]
  by_cases e : 0 = j
  · subst e
    rw [if_pos rfl, if_pos (by simpa using h), nuC_at h]
    rfl
  · rw [if_neg e]
    by_cases hj : j < N
    · rw [nuC_at hj, List.getElem?_replicate, if_pos hj]
      unfold nmI
      rw [if_neg (by simp; omega)]
      rfl
    · rw [List.getElem?_eq_none (by simp; omega), List.getElem?_eq_none (by simp [nuC]; omega)]
/-- Is, by Same of the minimal automaton. -/
theorem isV_smV (A : Aut) (h : chkA A = 0) (hk : (mnA A).k = A.k) : isV A = smV (mnA A) A := by
  unfold isV smV
  simp [h, hk]
end Go.Proofs.Ythjenemmhlljfaa
