/- Pure: every side can be written. -/
import Derived.Test.YthhlamehbcidgaaY15
namespace Go.Proofs.Ythhlamehbcidgaa
open Go Go.RowKit Go.Lib
set_option linter.unusedVariables false

theorem runS_append : ∀ (A B : List (Int × Nat)) (q : Int), runS q (A ++ B) = (runS q A).bind fun r => runS r B
  | [], B, q => by simp [runS]
  | (k, n) :: A, B, q => by
    rw [List.cons_append]
    by_cases h : gdS k n = true ∧ arN k ≤ q
    · rw [runS_some h, runS_some h]
      exact runS_append A B _
    · rw [runS_none h, runS_none h]
      rfl
theorem runS_snoc {A : List (Int × Nat)} {k : Int} {c : Nat} {q d : Int} (h : runS q (A ++ [(k, c)]) = some d) : ∃ d', runS q A = some d' ∧ gdS k c = true ∧ arN k ≤ d' ∧ d = d' + 1 - arN k := by
  rw [runS_append] at h
  cases hA : runS q A with
  | none => rw [hA] at h; cases h
  | some r =>
    rw [hA] at h
    have h : runS r [(k, c)] = some d := h
    by_cases g : gdS k c = true ∧ arN k ≤ r
    · rw [runS_some g, runS] at h
      cases h
      exact ⟨r, rfl, g.1, g.2, rfl⟩
    · rw [runS_none g] at h
      cases h
theorem take_last {L : Sg} {n : Nat} (h0 : n ≠ 0) (h : n ≤ L.length) : (intS L).take n = (intS L).take (n - 1) ++ [(((L.getD (n - 1) (0, 0)).1 : Int), (L.getD (n - 1) (0, 0)).2)] := by
  have hl : (intS L).length = L.length := by simp [intS]
  have h1 : n - 1 < (intS L).length := by omega
  have e : n = (n - 1) + 1 := by omega
  conv => lhs; rw [e]
  rw [List.take_add_one, List.getElem?_eq_getElem h1]
  congr 1
  have h2 : n - 1 < L.length := by omega
  rw [List.getD_eq_getElem?_getD, List.getElem?_eq_getElem h2]
  simp [intS]
theorem gdS_kind {k c : Nat} (h : gdS (k : Int) c = true) : k = 1 ∨ k = 2 ∨ k = 3 ∨ k = 4 := by
  unfold gdS at h
  by_cases h2 : (k : Int) = 2
  · exact .inr (.inl (by omega))
  · rw [if_neg h2] at h
    simp only [Bool.and_eq_true, decide_eq_true_eq] at h
    omega
/-- From a good beginning of a side the piece that ends there can be written. -/
theorem nx_some (L : Sg) : ∀ (f n : Nat), n ≤ f → n ≤ L.length → ∀ d, runS 0 ((intS L).take n) = some d → 1 ≤ d → ∃ p m, nxP L f n = some (p, m) ∧ m < n ∧ runS 0 ((intS L).take m) = some (d - 1)
  | 0, n, hf, hn, d, hr, hd => by
    obtain rfl : n = 0 := by omega
    rw [List.take_zero, runS] at hr
    cases hr
    omega
  | f + 1, n, hf, hn, d, hr, hd => by
    by_cases h0 : n = 0
    · subst h0
      rw [List.take_zero, runS] at hr
      cases hr
      omega
    rw [take_last h0 hn] at hr
    obtain ⟨d', hr', hg, ha, rfl⟩ := runS_snoc hr
    rw [nxP, if_neg h0]
    rcases gdS_kind hg with k | k | k | k
    · rw [k, if_pos rfl]
      rw [k] at hd ha
      have e : arN ((1 : Nat) : Int) = 0 := by decide
      rw [e]
      exact ⟨_, _, rfl, by omega, by rw [hr']; congr 1; omega⟩
    · rw [k, if_neg (by decide), if_pos rfl]
      have e : arN ((2 : Nat) : Int) = 0 := by decide
      rw [e]
      exact ⟨_, _, rfl, by omega, by rw [hr']; congr 1; omega⟩
    · rw [k] at hd ha
      have e : arN ((3 : Nat) : Int) = 2 := by decide
      rw [e] at hd ha
      obtain ⟨q, m2, hq, hm2, hr2⟩ := nx_some L f (n - 1) (by omega) (by omega) d' hr' (by omega)
      obtain ⟨p, m1, hp, hm1, hr1⟩ := nx_some L f m2 (by omega) (by omega) _ hr2 (by omega)
      rw [k, if_neg (by decide), if_neg (by decide), if_neg (by decide), hq]
      simp only [hp]
      rw [e]
      exact ⟨_, _, rfl, by omega, by rw [hr1]; congr 1; omega⟩
    · rw [k] at hd ha
      have e : arN ((4 : Nat) : Int) = 1 := by decide
      rw [e] at hd ha
      obtain ⟨q, m2, hq, hm2, hr2⟩ := nx_some L f (n - 1) (by omega) (by omega) d' hr' (by omega)
      rw [k, if_neg (by decide), if_neg (by decide), if_pos rfl, hq]
      rw [e]
      exact ⟨_, _, rfl, by omega, by rw [hr2]; congr 1; omega⟩
/-- What a side is written as. -/
def wrB (L : Sg) : ByteArray := match nxP L L.length L.length with
  | some (p, _) => p.1
  | none => ⟨#[]⟩
theorem side_written {L : Sg} (h : sideB (intS L) = true) : ∃ p m, nxP L L.length L.length = some (p, m) ∧ p.1 = wrB L := by
  unfold sideB at h
  cases hr : runS 0 (intS L) with
  | none => rw [hr] at h; cases h
  | some d =>
    rw [hr] at h
    have hd : d = 1 := by simpa using h
    have hl : (intS L).length = L.length := by simp [intS]
    have ht : (intS L).take L.length = intS L := List.take_of_length_le (by omega)
    obtain ⟨p, m, hp, -, -⟩ := nx_some L L.length L.length (Nat.le_refl _) (Nat.le_refl _) d (by rw [ht]; exact hr) (by omega)
    exact ⟨p, m, hp, by unfold wrB; rw [hp]⟩
end Go.Proofs.Ythhlamehbcidgaa
