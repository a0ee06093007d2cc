/- Contracts of bits.Rank and of the document's Rank. -/
import Derived.Test.YtfdkkiecibdblaaDoorRl
import Derived.Test.YtfdkkiecibdblaaDoorBw
namespace Go.Proofs.YtfdkkiecibdblaaDoor
open Go.RowKit Go.Lib

/-- A place, brought into 0 to 512. -/
def clampN (i : Int) : Nat := (max 0 (min i 512)).toNat
theorem clamp_le (i : Int) : clampN i ≤ 512 := by unfold clampN; omega
/-- What Rank answers. -/
def rankN (N : Nat) (i : Int) : Nat := cnt (clampN i) N
theorem cnt_and_all (N c : Nat) (h : c ≤ 512) : cnt 512 (andN N (allN c)) = cnt c N := by
  have e : 512 = c + (512 - c) := by omega
  conv => lhs; rw [e, cnt_add]
  have h1 : cnt (512 - c) (andN N (allN c) / 2 ^ c) = 0 := by
    have : ∀ b, cnt b (andN N (allN c) / 2 ^ c) = 0 := by
      intro b
      induction b with
      | zero => rfl
      | succ b ih =>
        rw [cnt_succ, ih, Nat.testBit_div_two_pow]
        unfold andN
        rw [Nat.testBit_and, testBit_all, decide_eq_false (by omega), Bool.and_false]
        rfl
    exact this _
  rw [h1, Nat.add_zero]
  apply cnt_congr
  intro i hi
  unfold andN
  rw [Nat.testBit_and, testBit_all, decide_eq_true hi, Bool.and_true]
theorem rank_word (N c k : Nat) : bits .and .u64 (word N k : Nat) ((2 ^ (min ((c : Int) - (k : Int) * 64).toNat 64) - 1 : Nat) : Int) = (word (andN N (allN c)) k : Nat) := by
  rw [and_u64 _ _ rfl rfl (word_lt N k) (ones_lt (by omega)), word_inter, word_all]

theorem low_word (c j : Nat) (z : Int) (h : z = (c : Int) - (j : Int) * 64) : 2 ^ (min z.toNat 64) - 1 = word (allN c) j := by rw [h, word_all]

end Go.Proofs.YtfdkkiecibdblaaDoor
