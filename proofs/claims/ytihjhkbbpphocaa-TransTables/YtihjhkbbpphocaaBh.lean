/- Contract of bits.Has; no old memory is written. -/
import Derived.Test.YtihjhkbbpphocaaBf
import Derived.BigQuiet
namespace Go.Proofs.Ytihjhkbbpphocaa
open Go.RowKit

/-- What Has answers. -/
def hasN (N : Nat) (i : Int) : Bool := decide (0 ≤ i ∧ i < 512) && N.testBit i.toNat
theorem has_bit (N m k l : Nat) (hk : m / 64 = k) (hl : m % 64 = l) : ((bits .and .u64 (word N k : Nat) ((2 ^ l : Nat) : Int)) != 0) = N.testBit m := by
  have h64 : l < 64 := by omega
  have e : 64 * k + l = m := by omega
  have hb : (word N k).testBit l = N.testBit m := by rw [testBit_word, e, decide_eq_true h64, Bool.true_and]
  rw [and_u64B _ _ rfl rfl (word_lt N k) (two_pow_lt _ h64), ← hb]
  cases hx : (word N k).testBit l with
  | true =>
    have : word N k &&& 2 ^ l ≠ 0 := by
      intro h0
      have h1 : (word N k &&& 2 ^ l).testBit l = true := by rw [Nat.testBit_and, hx, Nat.testBit_two_pow_self]; rfl
      rw [h0] at h1
      simp at h1
    simpa using this
  | false =>
    have : word N k &&& 2 ^ l = 0 := by
      apply Nat.eq_of_testBit_eq
      intro i
      rw [Nat.testBit_and, Nat.testBit_two_pow, Nat.zero_testBit]
      by_cases hi : l = i
      · rw [← hi, hx]; rfl
      · simp [hi]
    simp [this]
theorem isNumber_yes {i : Int} (h : decide (0 ≤ i ∧ i < 512) = true) (w : World) : Calls Try.prog 63 #[.int .i64 i] w fun e w' => e = .returned (.bool true) ∧ w' = w := h ▸ isNumber_any i w
theorem isNumber_no {i : Int} (h : decide (0 ≤ i ∧ i < 512) = false) (w : World) : Calls Try.prog 63 #[.int .i64 i] w fun e w' => e = .returned (.bool false) ∧ w' = w := h ▸ isNumber_any i w

theorem below_drewNB {B : Nat} {w W : World} (h : Below B w W) (q : Nat) : Below B w (W.drewN q) := ⟨h.os, h.tape, h.output, h.size, h.block⟩

end Go.Proofs.Ytihjhkbbpphocaa
