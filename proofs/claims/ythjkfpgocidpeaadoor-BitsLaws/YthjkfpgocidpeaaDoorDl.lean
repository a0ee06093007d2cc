/- Arithmetic alone: a number and one less: the lowest bit that is 1 falls out. -/
import Derived.Test.YthjkfpgocidpeaaDoorDn
namespace Go.Proofs.YthjkfpgocidpeaaDoor

theorem low_out (r : Nat) (h0 : r ≠ 0) (hr : r < 18446744073709551616) (j : Nat) : (r &&& (r - 1)).testBit j = (decide (j ≠ Lib.ctz 64 r) && r.testBit j) := by
  obtain ⟨m, hm, hk⟩ := Lib.ctzFrom_spec 64 r (by omega) hr
  have e : Lib.ctz 64 r = Lib.ctzFrom 64 r := by simp [Lib.ctz, h0]
  rw [e]
  generalize Lib.ctzFrom 64 r = t at hm hk
  have hp := Nat.two_pow_pos t
  have e1 : r - 1 = 2 ^ t * (2 * m) + (2 ^ t - 1) := by rw [hm, Nat.mul_add, Nat.mul_one]; omega
  have e2 : r = 2 ^ t * (2 * m + 1) + 0 := by rw [Nat.add_zero]; exact hm
  rw [Nat.testBit_and]
  have b1 : (r - 1).testBit j = if j < t then (2 ^ t - 1).testBit j else (2 * m).testBit (j - t) := by rw [e1, Nat.testBit_two_pow_mul_add _ (by omega)]
  have b2 : r.testBit j = if j < t then (0 : Nat).testBit j else (2 * m + 1).testBit (j - t) := by
    conv => lhs; rw [e2]
    rw [Nat.testBit_two_pow_mul_add _ hp]
  rw [b1, b2]
  by_cases h1 : j < t
  · rw [if_pos h1, if_pos h1, Nat.zero_testBit]
    simp
  · rw [if_neg h1, if_neg h1]
    by_cases h2 : j = t
    · subst h2
      simp
    · obtain ⟨d, hd⟩ : ∃ d, j - t = d + 1 := ⟨j - t - 1, by omega⟩
      rw [hd, Nat.testBit_succ, Nat.testBit_succ, show (2 * m + 1) / 2 = m by omega, show 2 * m / 2 = m by omega]
      simp [h2]

end Go.Proofs.YthjkfpgocidpeaaDoor
