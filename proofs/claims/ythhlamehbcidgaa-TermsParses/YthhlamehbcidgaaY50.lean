/- The document's reader, pure: its next byte and the program's reader. -/
import Derived.Test.YthhlamehbcidgaaY49
namespace Go.Proofs.Ythhlamehbcidgaa
open Go Go.RowKit Go.Lib
set_option linter.unusedVariables false

theorem pl_four {c : Nat} (hc : c < 256) (h : 0 ≤ plI c) : c = 120 ∨ c = 121 ∨ c = 122 ∨ c = 116 := by
  have h0 : ∀ c : Fin 256, 0 ≤ plI c.val → c.val = 120 ∨ c.val = 121 ∨ c.val = 122 ∨ c.val = 116 := by decide +kernel
  exact h0 ⟨c, hc⟩ h
theorem beg_all : ∀ c : Fin 256, decide (0 ≤ Lib.indexByte bBEG.data.toList (UInt8.ofNat c.val)) = bgB c.val := by decide +kernel
theorem xyz_all : ∀ c : Fin 256, decide (0 ≤ Lib.indexByte bXYZ.data.toList (UInt8.ofNat c.val)) = decide (0 ≤ plI c.val) := by decide +kernel
theorem sees_at {s g : ByteArray} {j : Nat} (h : j < s.size) : seesB s g j = decide (0 ≤ Lib.indexByte g.data.toList (UInt8.ofNat s[j].toNat)) := by
  rw [seesB_lt h, UInt8.ofNat_toNat]
theorem nx_end {s : ByteArray} {i : Nat} (h : skip s i = s.size) : nxB s i = 0 := by unfold nxB; rw [if_pos h]
theorem nx_at {s : ByteArray} {i : Nat} (h : skip s i < s.size) : nxB s i = s[skip s i].toNat := by
  unfold nxB
  rw [if_neg (by omega), byteN_at h]
theorem nx_beg {s : ByteArray} {i : Nat} (hi : i ≤ s.size) : seesB s bBEG (skip s i) = bgB (nxB s i) := by
  have hs := (skip_le (s := s) _ i rfl hi).2
  by_cases h : skip s i = s.size
  · rw [nx_end h, seesB_end (by omega)]
    decide +kernel
  · have hl : skip s i < s.size := by omega
    rw [nx_at hl, sees_at hl]
    exact beg_all ⟨_, UInt8.toNat_lt _⟩
theorem nx_xyz {s : ByteArray} {i : Nat} (hi : i ≤ s.size) : seesB s bXYZ (skip s i) = decide (0 ≤ plI (nxB s i)) := by
  have hs := (skip_le (s := s) _ i rfl hi).2
  by_cases h : skip s i = s.size
  · rw [nx_end h, seesB_end (by omega)]
    decide +kernel
  · have hl : skip s i < s.size := by omega
    rw [nx_at hl, sees_at hl]
    exact xyz_all ⟨_, UInt8.toNat_lt _⟩
theorem nx_isB {s : ByteArray} {i c : Nat} (hi : i ≤ s.size) (hc : c ≠ 0) : isB s c (skip s i) = (nxB s i == c) := by
  have hs := (skip_le (s := s) _ i rfl hi).2
  by_cases h : skip s i = s.size
  · rw [nx_end h, isB_end (by omega), beq_eq_false_iff_ne.2 (Ne.symm hc)]
  · have hl : skip s i < s.size := by omega
    rw [nx_at hl, isB_lt hl]
theorem nx_40 {s : ByteArray} {i : Nat} (hi : i ≤ s.size) : seesB s ⟨#[40]⟩ (skip s i) = (nxB s i == 40) := by
  rw [seesB_isB]; exact nx_isB hi (by decide)
theorem nx_94 {s : ByteArray} {i : Nat} (hi : i ≤ s.size) : seesB s ⟨#[94]⟩ (skip s i) = (nxB s i == 94) := by
  rw [seesB_isB]; exact nx_isB hi (by decide)
theorem nx_ne {s : ByteArray} {i : Nat} (hi : i ≤ s.size) (h : nxB s i ≠ 0) : skip s i < s.size ∧ byteN s (skip s i) = nxB s i := by
  have hs := (skip_le (s := s) _ i rfl hi).2
  by_cases e : skip s i = s.size
  · exact absurd (nx_end e) h
  · have hl : skip s i < s.size := by omega
    exact ⟨hl, by rw [nx_at hl, byteN_at hl]⟩
/-- What the next byte says of the atom. -/
theorem atom_cases {s : ByteArray} {P : Nat → Sg → Option (Nat × Sg)} {B : Nat → Sg → Option Nat} {i : Nat} (hi : i ≤ s.size) :
    (bgB (nxB s i) = false ∧ atomP s P i [] = none ∧ atomE s P B i [] = some (skip s i)) ∨
    (bgB (nxB s i) = true ∧ skip s i < s.size ∧ nxB s i ≠ 49 ∧ nxB s i ≠ 40 ∧ nxB s i < 256 ∧ atomP s P i [] = some (skip s i + 1, [(2, nxB s i)])) ∨
    (bgB (nxB s i) = true ∧ skip s i < s.size ∧ nxB s i = 49 ∧ atomP s P i [] = some (skip s i + 1, [(1, 0)])) ∨
    (bgB (nxB s i) = true ∧ skip s i < s.size ∧ nxB s i = 40 ∧ atomP s P i [] = (match P (skip s i + 1) [] with
      | none => none
      | some (k, M) => if isB s 41 k = true then some (k + 1, M) else none) ∧ atomE s P B i [] = (match P (skip s i + 1) [] with
      | none => B (skip s i + 1) []
      | some (k, _) => if isB s 41 k = true then none else some k)) := by
  have hx := nx_xyz hi
  have h4 := nx_40 hi
  have h1 := nx_isB (c := 49) hi (by decide)
  have hlt := nxB_lt s i
  have hne := nx_ne hi
  obtain ⟨c, hc⟩ : ∃ c, nxB s i = c := ⟨_, rfl⟩
  rw [hc] at hx h4 h1 hlt hne ⊢
  by_cases p : 0 ≤ plI c
  · have q := pl_four hlt p
    have hz : c ≠ 0 := by omega
    obtain ⟨e1, e2⟩ := hne hz
    refine .inr (.inl ⟨?_, e1, by omega, by omega, hlt, ?_⟩)
    · unfold bgB; rw [decide_eq_true p, decide_eq_true hz]; rfl
    · unfold atomP; rw [hx, if_pos (decide_eq_true p), e2]; rfl
  · have hx' : ¬ decide (0 ≤ plI c) = true := by rw [decide_eq_true_eq]; exact p
    by_cases p4 : c = 40
    · obtain ⟨e1, e2⟩ := hne (by omega)
      refine .inr (.inr (.inr ⟨by rw [p4]; decide +kernel, e1, p4, ?_, ?_⟩))
      · unfold atomP; rw [hx, if_neg hx', h4, p4, if_pos (by rfl)]; rfl
      · unfold atomE; rw [hx, if_neg hx', h4, p4, if_pos (by rfl)]; rfl
    · have h4' : ¬ (c == 40) = true := by simpa using p4
      by_cases p1 : c = 49
      · obtain ⟨e1, e2⟩ := hne (by omega)
        refine .inr (.inr (.inl ⟨by rw [p1]; decide +kernel, e1, p1, ?_⟩))
        unfold atomP; rw [hx, if_neg hx', h4, if_neg h4', h1, p1, if_pos (by rfl)]; rfl
      · have h1' : ¬ (c == 49) = true := by simpa using p1
        refine .inl ⟨?_, ?_, ?_⟩
        · unfold bgB; rw [decide_eq_false p, beq_eq_false_iff_ne.2 p4, beq_eq_false_iff_ne.2 p1]; rfl
        · unfold atomP; rw [hx, if_neg hx', h4, if_neg h4', h1, if_neg h1']
        · unfold atomE; rw [hx, if_neg hx', h4, if_neg h4', h1, if_neg h1']
theorem om_skip {s : ByteArray} : ∀ (n p : Nat) (N : Sg) (j : Nat) (M : Sg), omP s n (skip s p) N = some (j, M) → skip s j = j
  | 0, p, N, j, M, h => by simp [omP] at h
  | n + 1, p, N, j, M, h => by
    rw [omP] at h
    split at h
    · split at h
      · exact om_skip n _ _ j M h
      · cases h
    · simp only [Option.some.injEq, Prod.mk.injEq] at h
      obtain ⟨rfl, rfl⟩ := h
      exact skip_idem _ p rfl
theorem pow_skip {s : ByteArray} {P : Nat → Sg → Option (Nat × Sg)} {i : Nat} {L : Sg} {j : Nat} {M : Sg} (h : powP s P i L = some (j, M)) : skip s j = j := by
  unfold powP at h
  split at h
  · cases h
  · exact om_skip _ _ _ _ _ h
end Go.Proofs.Ythhlamehbcidgaa
