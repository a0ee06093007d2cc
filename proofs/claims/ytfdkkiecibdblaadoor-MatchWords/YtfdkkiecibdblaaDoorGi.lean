/- Of words joined; what the laws of chapter 6 say of trees. -/
import Derived.Test.YtfdkkiecibdblaaDoorGe
namespace Go.Proofs.YtfdkkiecibdblaaDoor
open Go Go.RowKit
set_option linter.unusedVariables false

theorem wl_append (u s : ByteArray) : wl (u ++ s) = wl u ++ wl s := by simp [wl]
theorem wordE_zero_iff {s : ByteArray} : wordE s = 0 ↔ s.data.toList.all letM = true ∧ s.size ≤ 511 := by
  unfold wordE
  by_cases h : s.data.toList.all letM = true
  · rw [if_pos h]
    by_cases h2 : 511 < s.size
    · rw [if_pos h2]; constructor
      · intro e; cases e
      · intro e; omega
    · rw [if_neg h2]; constructor
      · intro _; exact ⟨h, by omega⟩
      · intro _; rfl
  · rw [if_neg h]
    constructor
    · intro e; cases e
    · intro e; exact absurd e.1 h
theorem wordE_append {u s : ByteArray} (h : wordE (u ++ s) = 0) : wordE u = 0 ∧ wordE s = 0 ∧ u.size + s.size ≤ 511 := by
  rw [wordE_zero_iff] at h
  obtain ⟨h1, h2⟩ := h
  have e : (u ++ s).data.toList = u.data.toList ++ s.data.toList := by simp
  rw [e, List.all_append, Bool.and_eq_true] at h1
  rw [ByteArray.size_append] at h2
  exact ⟨wordE_zero_iff.2 ⟨h1.1, by omega⟩, wordE_zero_iff.2 ⟨h1.2, by omega⟩, h2⟩
theorem ends_ok0 {ts : List Nd} {s : ByteArray} {n : Nat} (h1 : wrong ts = 0) (h2 : wordE s = 0) (h3 : n ≤ s.size) : endsE ts s n = 0 := by
  unfold endsE
  rw [if_pos h1, if_pos h2, if_neg (by omega)]
theorem wrong_ok {t : Tr} (h : t.ok) (hl : t.flat.length ≤ 4000) : wrong t.flat = 0 := by
  unfold wrong
  rw [if_neg (by omega), if_pos (t.ok_free h)]
theorem wl_take (s : ByteArray) (n : Nat) (hn : n ≤ s.size) : wl (s.extract 0 n) = (wl s).take n := by
  have h2 : (s.data.extract 0 n).toList = s.data.toList.take n := by
    rw [Array.toList_extract, List.extract_eq_take_drop]
    simp
  simp only [wl]
  rw [← List.map_take, ← h2]
  simp [ByteArray.data_extract]
theorem wordE_extract {s : ByteArray} (h : wordE s = 0) (a b : Nat) : wordE (s.extract a b) = 0 := by
  rw [wordE_zero_iff] at h ⊢
  obtain ⟨h1, h2⟩ := h
  refine ⟨?_, by simp; omega⟩
  rw [List.all_eq_true] at h1 ⊢
  intro x hx
  refine h1 x ?_
  rw [ByteArray.data_extract] at hx
  have : x ∈ s.data.extract a b := Array.mem_toList_iff.1 hx
  obtain ⟨i, hi, rfl⟩ := Array.getElem_of_mem this
  rw [Array.getElem_extract]
  exact Array.getElem_mem_toList _
theorem bool_eq {a b : Bool} {P : Prop} (h1 : a = true ↔ P) (h2 : b = true ↔ P) : a = b := by rw [Bool.eq_iff_iff, h1, h2]
end Go.Proofs.YtfdkkiecibdblaaDoor
