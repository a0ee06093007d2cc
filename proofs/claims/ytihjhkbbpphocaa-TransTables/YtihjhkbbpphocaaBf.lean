/- Contracts of bits.Field over every place and width, and of the law's live: it answers true; no old memory is written. -/
import Derived.Test.YtihjhkbbpphocaaBo
namespace Go.Proofs.Ytihjhkbbpphocaa
open Go.RowKit

/-- Is it a field? -/
def isF (a b : Int) : Bool := decide (1 ≤ b ∧ b ≤ 64 ∧ 0 ≤ a ∧ a ≤ 512 - b)
/-- What Field answers. -/
def fieldN (N : Nat) (a b : Int) : Nat := if isF a b then N / 2 ^ a.toNat % 2 ^ b.toNat else 0
def fieldE (a b : Int) : Int := if isF a b then 0 else 1

theorem shr_cast (x n : Nat) : ((x : Int) / 2 ^ n) = ((x / 2 ^ n : Nat) : Int) := by simp
theorem shl_cast (x n : Nat) : IntKind.u64.wrap ((x : Int) * 2 ^ n) = ((x * 2 ^ n % 18446744073709551616 : Nat) : Int) := by
  rw [IntKind.wrap_u64]
  simp
theorem shr_lt {x n : Nat} (h : x < 18446744073709551616) : x / 2 ^ n < 18446744073709551616 := Nat.lt_of_le_of_lt (Nat.div_le_self _ _) h
theorem ones_lt {n : Nat} (h : n ≤ 64) : 2 ^ n - 1 < 18446744073709551616 := by
  have : 2 ^ n ≤ 2 ^ 64 := Nat.pow_le_pow_right (by decide) h
  have := Nat.two_pow_pos n
  omega
theorem testBit_shl (x n j : Nat) (hj : j < 64) : (x * 2 ^ n % 18446744073709551616).testBit j = (decide (n ≤ j) && x.testBit (j - n)) := by
  rw [show (18446744073709551616 : Nat) = 2 ^ 64 from rfl, Nat.testBit_mod_two_pow, Nat.testBit_mul_two_pow]
  simp [hj]
theorem field_lt (N a : Nat) {b : Nat} (h : b ≤ 64) : N / 2 ^ a % 2 ^ b < 18446744073709551616 := by
  have h1 : 2 ^ b ≤ 2 ^ 64 := Nat.pow_le_pow_right (by decide) h
  have h2 := Nat.mod_lt (N / 2 ^ a) (Nat.two_pow_pos b)
  omega
theorem field_near (N a b : Nat) (hb : b ≤ 64) (hx : a % 64 + b ≤ 64) : bits .and .u64 ((word N (a / 64) : Nat) / 2 ^ (a % 64) : Int) ((2 ^ b - 1 : Nat) : Int) = ((N / 2 ^ a % 2 ^ b : Nat) : Int) := by
  rw [and_u64B _ _ (shr_cast _ _) rfl (shr_lt (word_lt _ _)) (ones_lt hb)]
  congr 1
  apply word_ext (Nat.lt_of_le_of_lt Nat.and_le_right (ones_lt hb)) (field_lt N a hb)
  intro j hj
  rw [Nat.testBit_and, Nat.testBit_two_pow_sub_one, Nat.testBit_mod_two_pow, Nat.testBit_div_two_pow, Nat.testBit_div_two_pow, testBit_word]
  by_cases h : j < b
  · have h1 : j + a % 64 < 64 := by omega
    have h2 : 64 * (a / 64) + (j + a % 64) = j + a := by omega
    simp [h, h1, h2]
  · simp [h]
theorem field_far (N a b : Nat) (hb : b ≤ 64) (hx : 64 < a % 64 + b) :
    bits .and .u64 (bits .or .u64 ((word N (a / 64) : Nat) / 2 ^ (a % 64) : Int) (IntKind.u64.wrap ((word N (a / 64 + 1) : Nat) * 2 ^ (64 - a % 64) : Int))) ((2 ^ b - 1 : Nat) : Int) = ((N / 2 ^ a % 2 ^ b : Nat) : Int) := by
  have hor := or_u64 _ _ (shr_cast (word N (a / 64)) (a % 64)) (shl_cast (word N (a / 64 + 1)) (64 - a % 64)) (shr_lt (word_lt _ _)) (Nat.mod_lt _ (by decide))
  rw [hor, and_u64B _ _ rfl rfl (Nat.or_lt_two_pow (n := 64) (shr_lt (word_lt _ _)) (Nat.mod_lt _ (by decide))) (ones_lt hb)]
  congr 1
  apply word_ext (Nat.lt_of_le_of_lt Nat.and_le_right (ones_lt hb)) (field_lt N a hb)
  intro j hj
  rw [Nat.testBit_and, Nat.testBit_or, testBit_shl _ _ _ hj, Nat.testBit_two_pow_sub_one, Nat.testBit_mod_two_pow, Nat.testBit_div_two_pow, Nat.testBit_div_two_pow, testBit_word, testBit_word]
  by_cases h : j < b
  · by_cases h1 : j + a % 64 < 64
    · have h2 : 64 * (a / 64) + (j + a % 64) = j + a := by omega
      have h3 : ¬ 64 - a % 64 ≤ j := by omega
      rw [h2, decide_eq_true h1, decide_eq_false h3, decide_eq_true h]
      simp
    · have h2 : 64 * (a / 64 + 1) + (j - (64 - a % 64)) = j + a := by omega
      have h3 : 64 - a % 64 ≤ j := by omega
      have h4 : j - (64 - a % 64) < 64 := by omega
      rw [h2, decide_eq_false h1, decide_eq_true h3, decide_eq_true h, decide_eq_true h4]
      simp
  · simp [h]
theorem ret_twoB {x x' y y' : Int} (h1 : x = x') (h2 : y = y') : Ending.returned (.tuple #[.int .u64 x, .int .i64 y]) = .returned (.tuple #[.int .u64 x', .int .i64 y']) := by rw [h1, h2]
theorem field_good {N a b : Nat} (h : isF (a : Int) (b : Int) = true) : fieldN N a b = N / 2 ^ a % 2 ^ b ∧ fieldE a b = 0 := ⟨by rw [fieldN, if_pos h, Int.toNat_natCast, Int.toNat_natCast], by rw [fieldE, if_pos h]⟩

theorem live_of : ofN [3, 64, 3] = 18446744073709551624 := by decide +kernel
theorem live_ofE : ofE [3, 64, 3] = 0 := by decide +kernel
theorem live_f : fieldN 18446744073709551624 62 6 = 4 := by decide +kernel
theorem live_fE : fieldE 62 6 = 0 := by decide +kernel
theorem live_cnt : cntB 512 18446744073709551624 = 2 := by decide +kernel
theorem live_set : setV 18446744073709551624 = .agg #[.int .u64 8, .int .u64 1, .int .u64 0, .int .u64 0, .int .u64 0, .int .u64 0, .int .u64 0, .int .u64 0] := by
  have h : ∀ k, k < 8 → word 18446744073709551624 k = [8, 1, 0, 0, 0, 0, 0, 0].getD k 0 := by decide +kernel
  unfold setV
  rw [cellsF_congr h]
  rfl

theorem go_onB {w a b : World} (h : Below w.heap.size w a) (k : Below a.heap.size a b) : Below w.heap.size w b := h.trans (k.mono h.size)
theorem go_new {w a b : World} {o : Obj} (h : Below w.heap.size w a) (k : Below (a.alloc o).heap.size (a.alloc o) b) : Below w.heap.size w b := go_onB (h.alloc h.size o) k
theorem live_cells {w w' : World} (h : Below (w.alloc (.cells #[.int .u64 8, .int .u64 1, .int .u64 0, .int .u64 0, .int .u64 0, .int .u64 0, .int .u64 0, .int .u64 0] 44)).heap.size (w.alloc (.cells #[.int .u64 8, .int .u64 1, .int .u64 0, .int .u64 0, .int .u64 0, .int .u64 0, .int .u64 0, .int .u64 0] 44)) w') :
    w'.cell? ⟨w.heap.size, 0, none⟩ = some (.int .u64 8) ∧ w'.cell? ⟨w.heap.size, 1, none⟩ = some (.int .u64 1) ∧ w'.cell? ⟨w.heap.size, 2, none⟩ = some (.int .u64 0) ∧ w'.cell? ⟨w.heap.size, 3, none⟩ = some (.int .u64 0) ∧
    w'.cell? ⟨w.heap.size, 4, none⟩ = some (.int .u64 0) ∧ w'.cell? ⟨w.heap.size, 5, none⟩ = some (.int .u64 0) ∧ w'.cell? ⟨w.heap.size, 6, none⟩ = some (.int .u64 0) ∧ w'.cell? ⟨w.heap.size, 7, none⟩ = some (.int .u64 0) := by
  refine ⟨?_, ?_, ?_, ?_, ?_, ?_, ?_, ?_⟩ <;> rw [h.cell (by simp)] <;> simp only [World.cell?, heap_alloc_last] <;> rfl

end Go.Proofs.Ytihjhkbbpphocaa
