/- terms' reader, pure: what it reads doesn't hang on what it has. -/
import Derived.Test.YthhlamehbcidgaaY30
namespace Go.Proofs.Ythhlamehbcidgaa
open Go Go.RowKit Go.Lib
set_option linter.unusedVariables false

theorem om_app {s : ByteArray} : ∀ (n j : Nat) (L : Sg), omP s n j L = (omP s n j []).map fun q => (q.1, L ++ q.2)
  | 0, j, L => rfl
  | n + 1, j, L => by
    rw [omP, omP]
    by_cases h1 : seesB s ⟨#[94]⟩ j = true
    · rw [if_pos h1, if_pos h1]
      by_cases h2 : isB s 119 (j + 1) = true
      · rw [if_pos h2, if_pos h2, om_app n _ (L ++ [(4, 0)]), om_app n _ ([] ++ [(4, 0)])]
        cases omP s n (skip s (j + 2)) [] with
        | none => rfl
        | some q => simp
      · rw [if_neg h2, if_neg h2]
        rfl
    · rw [if_neg h1, if_neg h1]
      simp
def AppP (P : Nat → Sg → Option (Nat × Sg)) : Prop := ∀ i L, P i L = (P i []).map fun q => (q.1, L ++ q.2)
theorem atom_app {s : ByteArray} {P : Nat → Sg → Option (Nat × Sg)} (h : AppP P) : AppP (atomP s P) := fun i L => by
  unfold atomP
  by_cases h1 : seesB s bXYZ (skip s i) = true
  · rw [if_pos h1, if_pos h1]
    simp
  · rw [if_neg h1, if_neg h1]
    by_cases h2 : seesB s ⟨#[40]⟩ (skip s i) = true
    · rw [if_pos h2, if_pos h2, h _ L]
      cases P (skip s i + 1) [] with
      | none => rfl
      | some q =>
        obtain ⟨k, M⟩ := q
        simp only [Option.map_some]
        by_cases h3 : isB s 41 k = true
        · rw [if_pos h3, if_pos h3]
          rfl
        · rw [if_neg h3, if_neg h3]
          rfl
    · rw [if_neg h2, if_neg h2]
      by_cases h3 : isB s 49 (skip s i) = true
      · rw [if_pos h3, if_pos h3]
        simp
      · rw [if_neg h3, if_neg h3]
        rfl
theorem pow_app {s : ByteArray} {P : Nat → Sg → Option (Nat × Sg)} (h : AppP P) : AppP (powP s P) := fun i L => by
  unfold powP
  rw [atom_app h i L]
  cases atomP s P i [] with
  | none => rfl
  | some q =>
    obtain ⟨k, M⟩ := q
    simp only [Option.map_some]
    rw [om_app _ _ (L ++ M), om_app _ _ M]
    cases omP s (s.size + 1) (skip s k) [] with
    | none => rfl
    | some q => simp
theorem lp_app {s : ByteArray} {P : Nat → Sg → Option (Nat × Sg)} (h : AppP P) : ∀ n, AppP (lpP s P n)
  | 0, j, L => rfl
  | n + 1, j, L => by
    rw [lpP, lpP]
    by_cases h1 : seesB s bBEG j = true
    · rw [if_pos h1, if_pos h1, pow_app h j L]
      cases powP s P j [] with
      | none => rfl
      | some q =>
        obtain ⟨k, M⟩ := q
        simp only [Option.map_some]
        rw [lp_app h n k (L ++ M ++ [(3, 0)]), lp_app h n k (M ++ [(3, 0)])]
        cases lpP s P n k [] with
        | none => rfl
        | some q => simp
    · rw [if_neg h1, if_neg h1]
      simp
theorem pws_app {s : ByteArray} : ∀ f, AppP (pwsP s f)
  | 0, i, L => rfl
  | f + 1, i, L => by
    rw [pwsP, pwsP, pow_app (pws_app f) i L]
    cases powP s (pwsP s f) i [] with
    | none => rfl
    | some q =>
      obtain ⟨k, M⟩ := q
      simp only [Option.map_some]
      rw [lp_app (pws_app f) _ k (L ++ M), lp_app (pws_app f) _ k M]
      cases lpP s (pwsP s f) (s.size + 1) k [] with
      | none => rfl
      | some q => simp
def AppE (P : Nat → Sg → Option (Nat × Sg)) (B : Nat → Sg → Option Nat) : Prop := ∀ i L, B i L = B i []
theorem atom_appE {s : ByteArray} {P : Nat → Sg → Option (Nat × Sg)} {B : Nat → Sg → Option Nat} (h : AppP P) (hB : AppE P B) (i : Nat) (L : Sg) : atomE s P B i L = atomE s P B i [] := by
  unfold atomE
  rw [h _ L, hB _ L]
  cases P (skip s i + 1) [] with
  | none => rfl
  | some q => rfl
theorem pow_appE {s : ByteArray} {P : Nat → Sg → Option (Nat × Sg)} {B : Nat → Sg → Option Nat} (h : AppP P) (hB : AppE P B) (i : Nat) (L : Sg) : powE s P B i L = powE s P B i [] := by
  unfold powE
  rw [atom_app h i L, atom_appE h hB i L]
  cases atomP s P i [] with
  | none => rfl
  | some q => rfl
theorem lp_appE {s : ByteArray} {P : Nat → Sg → Option (Nat × Sg)} {B : Nat → Sg → Option Nat} (h : AppP P) (hB : AppE P B) : ∀ (n i : Nat) (L : Sg), lpE s P B n i L = lpE s P B n i []
  | 0, i, L => rfl
  | n + 1, i, L => by
    rw [lpE, lpE, pow_app h i L, pow_appE h hB i L]
    cases powP s P i [] with
    | none => rfl
    | some q =>
      obtain ⟨k, M⟩ := q
      simp only [Option.map_some]
      rw [lp_appE h hB n k (L ++ M ++ [(3, 0)]), lp_appE h hB n k (M ++ [(3, 0)])]
theorem pws_appE {s : ByteArray} : ∀ (f i : Nat) (L : Sg), pwsE s f i L = pwsE s f i []
  | 0, i, L => rfl
  | f + 1, i, L => by
    rw [pwsE, pwsE, pow_app (pws_app f) i L, pow_appE (B := pwsE s f) (pws_app f) (fun i L => pws_appE f i L) i L]
    cases powP s (pwsP s f) i [] with
    | none => rfl
    | some q =>
      obtain ⟨k, M⟩ := q
      simp only [Option.map_some]
      rw [lp_appE (B := pwsE s f) (pws_app f) (fun i L => pws_appE f i L) _ k (L ++ M), lp_appE (B := pwsE s f) (pws_app f) (fun i L => pws_appE f i L) _ k M]
end Go.Proofs.Ythhlamehbcidgaa
