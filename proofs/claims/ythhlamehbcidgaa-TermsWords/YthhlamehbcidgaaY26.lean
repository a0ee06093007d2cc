/- terms' reader, pure: it doesn't hang on the fuel. -/
import Derived.Test.YthhlamehbcidgaaY25
namespace Go.Proofs.Ythhlamehbcidgaa
open Go Go.RowKit Go.Lib
set_option linter.unusedVariables false

theorem om_fuel {s : ByteArray} : ∀ (n n' j : Nat) (L : Sg), s.size < n + j → s.size < n' + j → j ≤ s.size → omP s n j L = omP s n' j L
  | 0, _, j, L, h, _, hj => by omega
  | _, 0, j, L, _, h, hj => by omega
  | n + 1, n' + 1, j, L, h, h', hj => by
    rw [omP, omP]
    by_cases h1 : seesB s ⟨#[94]⟩ j = true
    · rw [if_pos h1, if_pos h1]
      by_cases h2 : isB s 119 (j + 1) = true
      · rw [if_pos h2, if_pos h2]
        obtain ⟨h3, _⟩ := isB_at h2
        have hs := skip_le (s := s) _ (j + 2) rfl (by omega)
        exact om_fuel n n' _ _ (by omega) (by omega) (by omega)
      · rw [if_neg h2, if_neg h2]
    · rw [if_neg h1, if_neg h1]
theorem atom_fuel {s : ByteArray} {P P' : Nat → Sg → Option (Nat × Sg)} {i : Nat} (hi : i ≤ s.size) (h : ∀ i' M, i < i' → i' ≤ s.size → P i' M = P' i' M) (L : Sg) : atomP s P i L = atomP s P' i L := by
  have hs := skip_le (s := s) _ i rfl hi
  unfold atomP
  by_cases h1 : seesB s bXYZ (skip s i) = true
  · rw [if_pos h1, if_pos h1]
  · rw [if_neg h1, if_neg h1]
    by_cases h2 : seesB s ⟨#[40]⟩ (skip s i) = true
    · have hl := seesB_le h2
      rw [if_pos h2, if_pos h2, h _ _ (by omega) (by omega)]
    · rw [if_neg h2, if_neg h2]
theorem pow_fuel {s : ByteArray} {P P' : Nat → Sg → Option (Nat × Sg)} {i : Nat} (hi : i ≤ s.size) (h : ∀ i' M, i < i' → i' ≤ s.size → P i' M = P' i' M) (L : Sg) : powP s P i L = powP s P' i L := by
  unfold powP
  rw [atom_fuel hi h L]
theorem lp_fuel {s : ByteArray} {P P' : Nat → Sg → Option (Nat × Sg)} (hp : ∀ i L j M, i ≤ s.size → P i L = some (j, M) → PG s i L j M) : ∀ (n n' j : Nat) (L : Sg), s.size < n + j → s.size < n' + j → j ≤ s.size → (∀ i' M, j < i' → i' ≤ s.size → P i' M = P' i' M) → lpP s P n j L = lpP s P' n' j L
  | 0, _, j, L, h, _, hj, _ => by omega
  | _, 0, j, L, _, h, hj, _ => by omega
  | n + 1, n' + 1, j, L, h, h', hj, he => by
    rw [lpP, lpP]
    by_cases h1 : seesB s bBEG j = true
    · rw [if_pos h1, if_pos h1, ← pow_fuel hj he L]
      cases ha : powP s P j L with
      | none => rfl
      | some q =>
        obtain ⟨k, M⟩ := q
        obtain ⟨q1, q2, q3⟩ := powP_pg hp hj ha
        exact lp_fuel hp n n' k _ (by omega) (by omega) q2 (fun i' M' g1 g2 => he i' M' (by omega) g2)
    · rw [if_neg h1, if_neg h1]
theorem pws_fuel {s : ByteArray} : ∀ (f f' i : Nat) (L : Sg), s.size < f + i → s.size < f' + i → i ≤ s.size → pwsP s f i L = pwsP s f' i L
  | 0, _, i, L, h, _, hi => by omega
  | _, 0, i, L, _, h, hi => by omega
  | f + 1, f' + 1, i, L, h, h', hi => by
    have he : ∀ i' M, i < i' → i' ≤ s.size → pwsP s f i' M = pwsP s f' i' M := fun i' M h1 h2 => pws_fuel f f' i' M (by omega) (by omega) h2
    rw [pwsP, pwsP, ← pow_fuel hi he L]
    cases ha : powP s (pwsP s f) i L with
    | none => rfl
    | some q =>
      obtain ⟨k, M⟩ := q
      obtain ⟨q1, q2, q3⟩ := powP_pg (pwsP_pg f) hi ha
      exact lp_fuel (pwsP_pg f) _ _ k M (by omega) (by omega) q2 (fun i' M' g1 g2 => he i' M' (by omega) g2)

/-- The reader without its fuel. -/
def rO (s : ByteArray) (j : Nat) (L : Sg) : Option (Nat × Sg) := omP s (s.size + 1) j L
def rS (s : ByteArray) (i : Nat) (L : Sg) : Option (Nat × Sg) := pwsP s (s.size + 1) i L
def rP (s : ByteArray) (i : Nat) (L : Sg) : Option (Nat × Sg) := powP s (rS s) i L
def rL (s : ByteArray) (j : Nat) (L : Sg) : Option (Nat × Sg) := lpP s (rS s) (s.size + 1) j L
theorem rO_at {s : ByteArray} {j : Nat} (hj : j ≤ s.size) (L : Sg) : rO s j L = if seesB s ⟨#[94]⟩ j = true then (if isB s 119 (j + 1) = true then rO s (skip s (j + 2)) (L ++ [(4, 0)]) else none) else some (j, L) := by
  unfold rO
  conv => lhs; rw [omP]
  by_cases h1 : seesB s ⟨#[94]⟩ j = true
  · rw [if_pos h1, if_pos h1]
    by_cases h2 : isB s 119 (j + 1) = true
    · rw [if_pos h2, if_pos h2]
      obtain ⟨h3, _⟩ := isB_at h2
      have hs := skip_le (s := s) _ (j + 2) rfl (by omega)
      exact om_fuel _ _ _ _ (by omega) (by omega) (by omega)
    · rw [if_neg h2, if_neg h2]
  · rw [if_neg h1, if_neg h1]
theorem rP_at {s : ByteArray} {i : Nat} (L : Sg) : rP s i L = match atomP s (rS s) i L with
    | none => none
    | some (j, M) => rO s (skip s j) M := rfl
theorem rS_pg {s : ByteArray} : ∀ i L j M, i ≤ s.size → rS s i L = some (j, M) → PG s i L j M := pwsP_pg _
theorem rL_at {s : ByteArray} {j : Nat} (hj : j ≤ s.size) (L : Sg) : rL s j L = if seesB s bBEG j = true then (match rP s j L with
    | none => none
    | some (k, M) => rL s k (M ++ [(3, 0)])) else some (j, L) := by
  unfold rL
  conv => lhs; rw [lpP]
  by_cases h1 : seesB s bBEG j = true
  · rw [if_pos h1, if_pos h1]
    show (match rP s j L with | none => none | some (k, M) => lpP s (rS s) s.size k (M ++ [(3, 0)])) = _
    cases ha : rP s j L with
    | none => rfl
    | some q =>
      obtain ⟨k, M⟩ := q
      obtain ⟨q1, q2, q3⟩ := powP_pg rS_pg hj ha
      exact lp_fuel rS_pg _ _ k _ (by omega) (by omega) q2 (fun _ _ _ _ => rfl)
  · rw [if_neg h1, if_neg h1]
theorem rS_at {s : ByteArray} {i : Nat} (hi : i ≤ s.size) (L : Sg) : rS s i L = match rP s i L with
    | none => none
    | some (j, M) => rL s j M := by
  have he : ∀ i' M, i < i' → i' ≤ s.size → pwsP s s.size i' M = rS s i' M := fun i' M h1 h2 => pws_fuel _ _ i' M (by omega) (by omega) h2
  conv => lhs; unfold rS; rw [pwsP, pow_fuel hi he L]
  show (match rP s i L with | none => none | some (j, M) => lpP s (pwsP s s.size) (s.size + 1) j M) = _
  cases ha : rP s i L with
  | none => rfl
  | some q =>
    obtain ⟨k, M⟩ := q
    obtain ⟨q1, q2, q3⟩ := powP_pg rS_pg hi ha
    exact lp_fuel (pwsP_pg _) _ _ k M (by omega) (by omega) q2 (fun i' M' g1 g2 => he i' M' (by omega) g2)
theorem skip_idem {s : ByteArray} : ∀ (n i : Nat), s.size - i = n → skip s (skip s i) = skip s i
  | n, i, hn => by
    by_cases h : seesB s ⟨#[32]⟩ i = true
    · have hl := seesB_le h
      rw [skip_on h]
      cases n with
      | zero => omega
      | succ n => exact skip_idem n (i + 1) (by omega)
    · rw [skip_end h, skip_end h]
theorem rP_skip {s : ByteArray} (i : Nat) (L : Sg) : rP s (skip s i) L = rP s i L := by
  unfold rP powP atomP
  rw [skip_idem _ i rfl]
theorem rS_skip {s : ByteArray} {i : Nat} (hi : i ≤ s.size) (L : Sg) : rS s (skip s i) L = rS s i L := by
  have hs := skip_le (s := s) _ i rfl hi
  rw [rS_at hi, rS_at hs.2, rP_skip]
end Go.Proofs.Ythhlamehbcidgaa
