/- terms.Parse at every text. -/
import Derived.Test.YthhlamehbcidgaaY23
namespace Go.Proofs.Ythhlamehbcidgaa
open Go Go.RowKit Go.Lib
set_option linter.unusedVariables false

theorem om_E {s : ByteArray} : ∀ (n j : Nat) (L : Sg), s.size < n + j → j ≤ s.size → omP s n j L = none → ∃ pl, omE s n j = some pl
  | 0, j, L, h, hj, _ => by omega
  | n + 1, j, L, h, hj, hn => by
    rw [omP] at hn
    rw [omE]
    split at hn
    · rename_i h1
      rw [if_pos h1]
      split at hn
      · rename_i h2
        rw [if_pos h2]
        obtain ⟨h3, _⟩ := isB_at h2
        have hs := skip_le (s := s) _ (j + 2) rfl (by omega)
        exact om_E n _ _ (by omega) (by omega) hn
      · rename_i h2
        rw [if_neg h2]
        exact ⟨_, rfl⟩
    · cases hn
theorem atom_E {s : ByteArray} {pows : Nat → Sg → Option (Nat × Sg)} {bad : Nat → Sg → Option Nat} {i : Nat} (hi : i ≤ s.size) (hE : ∀ i' M, i < i' → i' ≤ s.size → pows i' M = none → ∃ pl, bad i' M = some pl) (L : Sg) (hn : atomP s pows i L = none) : ∃ pl, atomE s pows bad i L = some pl := by
  have hs := skip_le (s := s) _ i rfl hi
  unfold atomP at hn
  unfold atomE
  split at hn
  · cases hn
  rename_i h1
  rw [if_neg h1]
  split at hn
  · rename_i h2
    rw [if_pos h2]
    have hl := seesB_le h2
    split at hn
    · rename_i hp
      rw [hp]
      exact hE _ _ (by omega) (by omega) hp
    · rename_i k M hp
      rw [hp]
      split at hn
      · cases hn
      · rename_i h3
        exact ⟨k, if_neg h3⟩
  · rename_i h2
    rw [if_neg h2]
    split at hn
    · cases hn
    · rename_i h3
      exact ⟨_, if_neg h3⟩
theorem pow_E {s : ByteArray} {pows : Nat → Sg → Option (Nat × Sg)} {bad : Nat → Sg → Option Nat} (hp : ∀ i L j M, i ≤ s.size → pows i L = some (j, M) → PG s i L j M) {i : Nat} (hi : i ≤ s.size) (hE : ∀ i' M, i < i' → i' ≤ s.size → pows i' M = none → ∃ pl, bad i' M = some pl) (L : Sg) (hn : powP s pows i L = none) : ∃ pl, powE s pows bad i L = some pl := by
  unfold powP at hn
  unfold powE
  split at hn
  · rename_i ha
    rw [ha]
    exact atom_E hi hE L ha
  · rename_i j M ha
    rw [ha]
    obtain ⟨q1, q2, q3⟩ := atomP_pg hp hi ha
    have hs := skip_le (s := s) _ j rfl q2
    exact om_E _ _ M (by omega) (by omega) hn
theorem lp_E {s : ByteArray} {pows : Nat → Sg → Option (Nat × Sg)} {bad : Nat → Sg → Option Nat} (hp : ∀ i L j M, i ≤ s.size → pows i L = some (j, M) → PG s i L j M) : ∀ (n j : Nat) (L : Sg), s.size < n + j → j ≤ s.size → (∀ i' M, j < i' → i' ≤ s.size → pows i' M = none → ∃ pl, bad i' M = some pl) → lpP s pows n j L = none → ∃ pl, lpE s pows bad n j L = some pl
  | 0, j, L, h, hj, _, _ => by omega
  | n + 1, j, L, h, hj, hE, hn => by
    rw [lpP] at hn
    rw [lpE]
    split at hn
    · rename_i h1
      rw [if_pos h1]
      split at hn
      · rename_i ha
        rw [ha]
        exact pow_E hp hj hE L ha
      · rename_i k M ha
        rw [ha]
        obtain ⟨q1, q2, q3⟩ := powP_pg hp hj ha
        exact lp_E hp n k _ (by omega) q2 (fun i' M' h1 h2 h3 => hE i' M' (by omega) h2 h3) hn
    · cases hn
theorem pws_E {s : ByteArray} : ∀ (f i : Nat) (L : Sg), s.size < f + i → i ≤ s.size → pwsP s f i L = none → ∃ pl, pwsE s f i L = some pl
  | 0, i, L, h, hi, _ => by omega
  | f + 1, i, L, h, hi, hn => by
    have hE : ∀ i' M, i < i' → i' ≤ s.size → pwsP s f i' M = none → ∃ pl, pwsE s f i' M = some pl := fun i' M h1 h2 h3 => pws_E f i' M (by omega) h2 h3
    rw [pwsP] at hn
    rw [pwsE]
    split at hn
    · rename_i ha
      rw [ha]
      exact pow_E (pwsP_pg f) hi hE L ha
    · rename_i j M ha
      rw [ha]
      obtain ⟨q1, q2, q3⟩ := powP_pg (pwsP_pg f) hi ha
      exact lp_E (pwsP_pg f) _ j M (by omega) q2 (fun i' M' h1 h2 h3 => hE i' M' (by omega) h2 h3) hn
/-- A text that isn't read is given up somewhere. -/
theorem id_E {s : ByteArray} (h : idP s = none) : ∃ pl, idE s = some pl := by
  unfold idP at h
  unfold idE
  split at h
  · rename_i ha
    rw [ha]
    exact pws_E _ 0 [] (by omega) (Nat.zero_le _) ha
  · rename_i j L ha
    rw [ha]
    obtain ⟨j2, hj2⟩ : ∃ j2, (if seesB s ⟨#[60]⟩ j = true then j + 1 else j) = j2 := ⟨_, rfl⟩
    simp only [hj2] at h ⊢
    split at h
    · rename_i h1
      rw [if_pos h1]
      obtain ⟨h2, _⟩ := isB_at h1
      split at h
      · rename_i hb
        rw [hb]
        exact pws_E _ _ [] (by omega) (by omega) hb
      · rename_i k R hb
        rw [hb]
        simp only
        split at h
        · cases h
        · rename_i h3
          exact ⟨k, if_neg h3⟩
    · rename_i h1
      exact ⟨_, if_neg h1⟩

/-- Names are bytes. -/
def Byt (L : Sg) : Prop := ∀ p ∈ L, p.2 < 256
theorem Byt.snoc {L : Sg} (h : Byt L) {k c : Nat} (hc : c < 256) : Byt (L ++ [(k, c)]) := fun p hp => by
  rcases List.mem_append.1 hp with q | q
  · exact h p q
  · simp at q
    rw [q]
    exact hc
theorem byteN_lt (s : ByteArray) (i : Nat) : byteN s i < 256 := by
  unfold byteN
  split
  · rename_i x _
    exact x.toNat_lt
  · omega
theorem om_byt {s : ByteArray} : ∀ (n j : Nat) (L : Sg) (k : Nat) (M : Sg), Byt L → omP s n j L = some (k, M) → Byt M
  | 0, j, L, k, M, h, hr => by simp [omP] at hr
  | n + 1, j, L, k, M, h, hr => by
    rw [omP] at hr
    split at hr
    · split at hr
      · exact om_byt n _ _ k M (h.snoc (by omega)) hr
      · cases hr
    · cases hr
      exact h
theorem atom_byt {s : ByteArray} {pows : Nat → Sg → Option (Nat × Sg)} (hp : ∀ i L j M, Byt L → pows i L = some (j, M) → Byt M) {i : Nat} {L : Sg} {j : Nat} {M : Sg} (h : Byt L) (hr : atomP s pows i L = some (j, M)) : Byt M := by
  unfold atomP at hr
  split at hr
  · cases hr
    exact h.snoc (byteN_lt _ _)
  · split at hr
    · split at hr
      · cases hr
      · rename_i hq
        split at hr
        · cases hr
          exact hp _ _ _ _ h hq
        · cases hr
    · split at hr
      · cases hr
        exact h.snoc (by omega)
      · cases hr
theorem pow_byt {s : ByteArray} {pows : Nat → Sg → Option (Nat × Sg)} (hp : ∀ i L j M, Byt L → pows i L = some (j, M) → Byt M) {i : Nat} {L : Sg} {j : Nat} {M : Sg} (h : Byt L) (hr : powP s pows i L = some (j, M)) : Byt M := by
  unfold powP at hr
  split at hr
  · cases hr
  · rename_i ha
    exact om_byt _ _ _ _ _ (atom_byt hp h ha) hr
theorem lp_byt {s : ByteArray} {pows : Nat → Sg → Option (Nat × Sg)} (hp : ∀ i L j M, Byt L → pows i L = some (j, M) → Byt M) : ∀ (n j : Nat) (L : Sg) (k : Nat) (M : Sg), Byt L → lpP s pows n j L = some (k, M) → Byt M
  | 0, j, L, k, M, h, hr => by simp [lpP] at hr
  | n + 1, j, L, k, M, h, hr => by
    rw [lpP] at hr
    split at hr
    · split at hr
      · cases hr
      · rename_i ha
        exact lp_byt hp n _ _ k M ((pow_byt hp h ha).snoc (by omega)) hr
    · cases hr
      exact h
theorem pws_byt {s : ByteArray} : ∀ (f i : Nat) (L : Sg) (j : Nat) (M : Sg), Byt L → pwsP s f i L = some (j, M) → Byt M
  | 0, i, L, j, M, h, hr => by simp [pwsP] at hr
  | f + 1, i, L, j, M, h, hr => by
    rw [pwsP] at hr
    split at hr
    · cases hr
    · rename_i ha
      exact lp_byt (pws_byt f) _ _ _ _ _ (pow_byt (pws_byt f) h ha) hr
theorem id_byt {s : ByteArray} {L R : Sg} {x : Bool} (h : idP s = some (L, R, x)) : Byt L ∧ Byt R ∧ L.length ≤ 2 * s.size ∧ R.length ≤ 2 * s.size := by
  unfold idP at h
  split at h
  · cases h
  · rename_i j M ha
    obtain ⟨j2, hj2⟩ : ∃ j2, (if seesB s ⟨#[60]⟩ j = true then j + 1 else j) = j2 := ⟨_, rfl⟩
    simp only [hj2] at h
    split at h
    · rename_i h1
      split at h
      · cases h
      · rename_i k N hb
        split at h
        · obtain ⟨h2, _⟩ := isB_at h1
          have g1 := pwsP_pg _ _ _ _ _ (Nat.zero_le _) ha
          have g2 := pwsP_pg _ _ _ _ _ (by omega) hb
          simp only [Option.some.injEq, Prod.mk.injEq] at h
          obtain ⟨rfl, rfl, _⟩ := h
          have n0 : Byt [] := fun p hp => by cases hp
          have q1 := g1.2.2
          have q2 := g2.2.2
          have q3 := g1.2.1
          have q4 := g2.2.1
          simp only [List.length_nil] at q1 q2
          exact ⟨pws_byt _ _ _ _ _ n0 ha, pws_byt _ _ _ _ _ n0 hb, by omega, by omega⟩
        · cases h
    · cases h

/-- What Parse answers. -/
def PzQ (s : ByteArray) (w : World) (e : Ending) (w' : World) : Prop :=
  (∃ L R x, s.size ≤ 1000 ∧ idP s = some (L, R, x) ∧ ck2 (intS L) (intS R) = 0 ∧ PaQ L R x w e w') ∨ ∃ pl er, er ≠ 0 ∧ PbQ pl er w e w'
theorem parse_any (s : ByteArray) (w : World) : Calls Try.prog 8 #[.string s] w (PzQ s w) := by
  by_cases hs : s.size ≤ 1000
  · cases hi : idP s with
    | none =>
      obtain ⟨pl, hpl⟩ := id_E hi
      exact (parse_bad hs hpl w).mono fun e w' h => .inr ⟨pl, 41, by decide, h⟩
    | some q =>
      obtain ⟨L, R, x⟩ := q
      obtain ⟨b1, b2, b3, b4⟩ := id_byt hi
      by_cases hc : ck2 (intS L) (intS R) = 0
      · exact (parse_ok hs hi b1 b2 hc w).mono fun e w' h => .inl ⟨L, R, x, hs, hi, hc, h⟩
      · have hll : (intS L).length ≤ 9223372036854775807 ∧ (intS R).length ≤ 9223372036854775807 := by simp [intS]; omega
        exact (parse_size hs hi b1 b2 hll rfl hc w).mono fun e w' h => .inr ⟨0, _, hc, h⟩
  · exact (parse_long (by omega) w).mono fun e w' h => .inr ⟨0, 40, by decide, h⟩
end Go.Proofs.Ythhlamehbcidgaa
