/- Plain mathematics: a root's root is itself; a power's root is its word's. -/
import Derived.Test.YtocdifclkopbcabLyn
import Derived.Test.YtocdifclkopbcabPow
namespace Go.Proofs.Ytocdifclkopbcab

theorem root_take_len (U : List UInt8) (p : Nat) (h : IsRoot (str U) p) : (U.take p).length = p := by
  have := (root_str U p h).2.1
  rw [List.length_take]
  omega
theorem root_letters (U : List UInt8) (p : Nat) (h : IsRoot (str U) p) (i : Nat) (hi : i < U.length) : lt' U i = lt' (U.take p) (i % p) := by
  obtain ⟨p1, p2, p3, p4, p5⟩ := root_str U p h
  rw [perF_mod _ _ p p4 i hi, lt_take U p (i % p) (Nat.mod_lt _ (by omega))]
theorem root_root (U : List UInt8) (p q : Nat) (h : IsRoot (str U) p) (g : IsRoot (str (U.take p)) q) : q = p := by
  obtain ⟨p1, p2, p3, p4, p5⟩ := root_str U p h
  obtain ⟨q1, q2, q3, q4, q5⟩ := root_str _ q g
  have hl := root_take_len U p h
  rw [hl] at q2 q3 q4
  have hper : perF (lt' U) p q := by
    intro i hi
    have := q4 i hi
    rw [lt_take U p i (by omega), lt_take U p (i + q) hi] at this
    exact this
  have := p5 q q1 (Nat.dvd_trans q3 p3) (perF_ext _ _ p q (by omega) p2 q3 hper p4)
  omega
theorem powL_lt (U : List UInt8) (n : Nat) : ∀ i, i < n * U.length → lt' (powL U n) i = lt' U (i % U.length) := by
  induction n with
  | zero => intro i hi; omega
  | succ n ih =>
    intro i hi
    rw [Nat.succ_mul] at hi
    rw [powL]
    have hl := powL_len U n
    rcases Nat.lt_or_ge i (n * U.length) with g | g
    · rw [lt_append_left _ _ i (by omega)]
      exact ih i g
    · obtain ⟨j, rfl⟩ : ∃ j, i = (powL U n).length + j := ⟨i - n * U.length, by omega⟩
      rw [lt_append_right, hl, Nat.mul_comm n, Nat.mul_add_mod, Nat.mod_eq_of_lt (by omega)]
theorem power_root (U : List UInt8) (n p q : Nat) (hn : 1 ≤ n) (h : IsRoot (str U) p) (g : IsRoot (str (powL U n)) q) : q = p ∧ (powL U n).take q = U.take p := by
  obtain ⟨p1, p2, p3, p4, p5⟩ := root_str U p h
  obtain ⟨q1, q2, q3, q4, q5⟩ := root_str _ q g
  have hl := powL_len U n
  rw [hl] at q2 q3 q4 q5
  have hU : U.length ≤ n * U.length := Nat.le_mul_of_pos_left _ hn
  have hdU : U.length ∣ n * U.length := Nat.dvd_mul_left _ _
  have hlt := powL_lt U n
  have same : ∀ i, i < U.length → lt' (powL U n) i = lt' U i := fun i hi => by rw [hlt i (by omega), Nat.mod_eq_of_lt hi]
  have perW : perF (lt' (powL U n)) (n * U.length) U.length := by
    intro i hi
    rw [hlt i (by omega), hlt (i + U.length) hi, Nat.add_mod_right]
  have perp : perF (lt' (powL U n)) U.length p := by
    intro i hi
    rw [same i (by omega), same (i + p) hi]
    exact p4 i hi
  have wp : perF (lt' (powL U n)) (n * U.length) p := perF_ext _ _ U.length p (by omega) hU p3 perp perW
  have dq : q ∣ p := root_dvd _ (n * U.length) q p q1 q3 q4 q5 p1 (by omega) (Nat.dvd_trans p3 hdU) wp
  have uq : perF (lt' U) U.length q := by
    intro i hi
    have := q4 i (by omega)
    rw [same i (by omega), same (i + q) hi] at this
    exact this
  have a := p5 q q1 (Nat.dvd_trans dq p3) uq
  have b := Nat.le_of_dvd (by omega) dq
  have e : q = p := by omega
  refine ⟨e, ?_⟩
  subst e
  apply list_ext
  · rw [List.length_take, List.length_take]; omega
  · intro i hi
    rw [List.length_take] at hi
    rw [lt_take _ q i (by omega), lt_take _ q i (by omega), same i (by omega)]
theorem root_exists (U : List UInt8) (h : U ≠ []) : ∃ p, IsRoot (str U) p := by
  have hl : 0 < U.length := List.length_pos_iff.2 h
  have find : ∀ d, d ≤ U.length → (∃ p, IsRoot (str U) p) ∨ ∀ q, 1 ≤ q → q ≤ d → divP (str U) q = false := by
    intro d
    induction d with
    | zero => intro _; exact .inr (fun q h1 h2 => by omega)
    | succ d ih =>
      intro hd
      rcases ih (by omega) with g | g
      · exact .inl g
      · cases hv : divP (str U) (d + 1) with
        | false => exact .inr (fun q h1 h2 => by
            by_cases e : q = d + 1
            · rw [e]; exact hv
            · exact g q h1 (by omega))
        | true => exact .inl ⟨d + 1, by omega, by rw [str_size]; exact hd, hv, fun q h1 h2 => g q h1 (by omega)⟩
  rcases find U.length (Nat.le_refl _) with g | g
  · exact g
  · have := g U.length hl (Nat.le_refl _)
    have e := divP_all (str U)
    rw [str_size] at e
    rw [e] at this
    exact absurd this (by simp)

end Go.Proofs.Ytocdifclkopbcab
