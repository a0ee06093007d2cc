/- Arithmetic of a set's numbers, as they come word by word: what is left of a word behind its numbers below t. -/
import Derived.Test.YthjkfpgocidpeaaDoorDl
namespace Go.Proofs.YthjkfpgocidpeaaDoor
open Go.RowKit Go.Lib

theorem lst_skip (N a : Nat) : ∀ b, a ≤ b → (∀ i, a ≤ i → i < b → N.testBit i = false) → lst N b = lst N a := by
  intro b
  induction b with
  | zero => intro h _; rw [show a = 0 by omega]
  | succ b ih =>
    intro h hz
    by_cases e : a = b + 1
    · rw [e]
    · rw [lst_succ, hz b (by omega) (by omega), ih (by omega) (fun i h1 h2 => hz i h1 (by omega))]
      simp
theorem lst_prefix (N a : Nat) : ∀ b, a ≤ b → lst N a <+: lst N b := by
  intro b
  induction b with
  | zero => intro h; rw [show a = 0 by omega]; exact List.prefix_refl _
  | succ b ih =>
    intro h
    by_cases e : a = b + 1
    · rw [e]; exact List.prefix_refl _
    · rw [lst_succ]
      exact (ih (by omega)).trans (List.prefix_append _ _)

/-- What is left of word j, from its bit t on. -/
def Left (N j t r : Nat) : Prop := t ≤ 64 ∧ r < 18446744073709551616 ∧ ∀ i, r.testBit i = (decide (t ≤ i) && (word N j).testBit i)
theorem left_start (N j : Nat) : Left N j 0 (word N j) := ⟨by omega, word_lt N j, fun i => by simp⟩
theorem left_step {N j t r : Nat} (h : Left N j t r) (h0 : r ≠ 0) :
    Lib.ctz 64 r < 64 ∧ lst N (64 * j + Lib.ctz 64 r + 1) = lst N (64 * j + t) ++ [((64 * j + Lib.ctz 64 r : Nat) : Int)] ∧ Left N j (Lib.ctz 64 r + 1) (r &&& (r - 1)) := by
  obtain ⟨ht, hr, hb⟩ := h
  obtain ⟨hc, hct, hcl⟩ := ctz_bits r h0 hr
  have lo := low_out r h0 hr
  generalize Lib.ctz 64 r = c at hc hct hcl lo ⊢
  have hwc : (word N j).testBit c = true ∧ t ≤ c := by
    have := hb c
    rw [hct] at this
    have h2 := this.symm
    rw [Bool.and_eq_true, decide_eq_true_iff] at h2
    exact ⟨h2.2, h2.1⟩
  have hN : ∀ i, i < 64 → N.testBit (64 * j + i) = (word N j).testBit i := by
    intro i hi
    rw [testBit_word, decide_eq_true hi, Bool.true_and]
  refine ⟨hc, ?_, ?_⟩
  · rw [lst_succ, hN c hc, hwc.1, if_pos rfl, lst_skip N (64 * j + t) (64 * j + c) (by omega)]
    intro i h1 h2
    obtain ⟨d, rfl⟩ : ∃ d, i = 64 * j + d := ⟨i - 64 * j, by omega⟩
    rw [hN d (by omega)]
    have h3 := hcl d (by omega)
    rw [hb d, decide_eq_true (by omega), Bool.true_and] at h3
    exact h3
  · refine ⟨by omega, Nat.lt_of_le_of_lt Nat.and_le_left hr, ?_⟩
    intro i
    rw [lo i, hb i]
    by_cases h1 : c + 1 ≤ i
    · rw [decide_eq_true h1, decide_eq_true (show i ≠ c by omega), decide_eq_true (show t ≤ i by omega)]
      simp
    · by_cases h2 : i = c
      · rw [h2, decide_eq_false (show ¬ c + 1 ≤ c by omega)]; simp
      · have h3 := hcl i (by omega)
        rw [hb i] at h3
        rw [h3]
        simp [h1]
theorem left_end {N j t : Nat} (h : Left N j t 0) : lst N (64 * (j + 1)) = lst N (64 * j + t) := by
  obtain ⟨ht, _, hb⟩ := h
  refine lst_skip N _ _ (by omega) ?_
  intro i h1 h2
  obtain ⟨d, rfl⟩ : ∃ d, i = 64 * j + d := ⟨i - 64 * j, by omega⟩
  have h3 := hb d
  rw [Nat.zero_testBit, decide_eq_true (by omega), Bool.true_and, testBit_word, decide_eq_true (by omega), Bool.true_and] at h3
  exact h3.symm
theorem left_lt {N j t r : Nat} (h : Left N j t r) (h0 : r ≠ 0) (hj : j < 8) : (lst N (64 * j + t)).length < (lst N 512).length := by
  obtain ⟨hc, hl, _⟩ := left_step h h0
  have hp := (lst_prefix N (64 * j + Lib.ctz 64 r + 1) 512 (by omega)).length_le
  rw [hl, List.length_append] at hp
  simp at hp
  omega
theorem low_less {r : Nat} (h0 : r ≠ 0) : r &&& (r - 1) < r := Nat.lt_of_le_of_lt Nat.and_le_right (by omega)

end Go.Proofs.YthjkfpgocidpeaaDoor
