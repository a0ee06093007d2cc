/- Arithmetic alone: shifts there and back. -/
import Derived.Test.YtghchlppdhfoeabBd
import Derived.Test.YtghchlppdhfoeabBv
namespace Go.Proofs.Ytghchlppdhfoeab

theorem cnt_none {b X : Nat} (h : ∀ i, i < b → X.testBit i = false) : cnt b X = 0 := by
  induction b with
  | zero => rfl
  | succ b ih => rw [cnt_succ, ih (fun i hi => h i (by omega)), h b (by omega)]; rfl
theorem shift_pos (N n : Nat) (h : n < 512) : shiftN N n = upN N n := by unfold shiftN; rw [if_neg (by omega), if_neg (by omega), Int.toNat_natCast]
theorem shift_neg (N n : Nat) (h : n < 512) (h0 : 0 < n) : shiftN N (-(n : Int)) = downN N n := by
  unfold shiftN
  rw [if_neg (by omega), if_pos (by omega)]
  congr 1
  omega
theorem up_zero (N : Nat) (hN : Fits N) : upN N 0 = N := by
  apply Nat.eq_of_testBit_eq
  intro i
  rw [testBit_up]
  by_cases h : i < 512
  · simp [h]
  · rw [decide_eq_false h, hN i (by omega)]; rfl
theorem down_zero (N : Nat) : downN N 0 = N := by unfold downN; rw [Nat.pow_zero, Nat.div_one]
theorem shift_big {N : Nat} {n : Int} (h : 512 ≤ n ∨ n ≤ -512) : shiftN N n = 0 := by unfold shiftN; rw [if_pos h]
/-- Bits of a shifted set. -/
theorem testBit_shift {N : Nat} (hN : Fits N) (n : Int) (i : Nat) : (shiftN N n).testBit i = (decide (i < 512) && (decide (0 ≤ (i : Int) - n) && N.testBit ((i : Int) - n).toNat)) := by
  by_cases hb : 512 ≤ n ∨ n ≤ -512
  · rw [shift_big hb, Nat.zero_testBit]
    by_cases h : i < 512
    · rw [decide_eq_true h, Bool.true_and]
      rcases hb with hb | hb
      · rw [decide_eq_false (by omega), Bool.false_and]
      · rw [hN _ (by omega), Bool.and_false]
    · rw [decide_eq_false h, Bool.false_and]
  · unfold shiftN
    rw [if_neg hb]
    by_cases hn : n < 0
    · rw [if_pos hn, testBit_down, decide_eq_true (show 0 ≤ (i : Int) - n by omega), Bool.true_and, show ((i : Int) - n).toNat = i + (-n).toNat by omega]
      by_cases h : i < 512
      · rw [decide_eq_true h, Bool.true_and]
      · rw [decide_eq_false h, hN _ (by omega)]; rfl
    · rw [if_neg hn, testBit_up, show ((i : Int) - n).toNat = i - n.toNat by omega]
      by_cases h2 : n.toNat ≤ i
      · rw [decide_eq_true h2, decide_eq_true (show 0 ≤ (i : Int) - n by omega)]
      · rw [decide_eq_false h2, decide_eq_false (show ¬ 0 ≤ (i : Int) - n by omega)]
theorem shift_size {N : Nat} (hN : Fits N) (n : Int) : cnt 512 (shiftN (shiftN N n) (-n)) = cnt 512 (shiftN N n) := by
  have hT := fits_shift hN n
  have hbit := testBit_shift hT (-n)
  have tbit := testBit_shift hN n
  by_cases hb : 512 ≤ n ∨ n ≤ -512
  · rw [shift_big hb, shift_big (N := 0) (by omega)]
  · by_cases hn : n < 0
    · obtain ⟨m, hm⟩ : ∃ m : Nat, -n = m := ⟨(-n).toNat, by omega⟩
      have h512 : 512 = m + (512 - m) := by omega
      have h512' : 512 = (512 - m) + m := by omega
      have e1 : cnt 512 (shiftN (shiftN N n) (-n)) = cnt (512 - m) (shiftN N n) := by
        conv => lhs; rw [h512, cnt_add]
        rw [cnt_none, Nat.zero_add]
        · apply cnt_congr
          intro i hi
          rw [Nat.testBit_div_two_pow, hbit, decide_eq_true (show i + m < 512 by omega), decide_eq_true (show 0 ≤ ((i + m : Nat) : Int) - -n by omega), Bool.true_and, Bool.true_and]
          congr 1
          omega
        · intro i hi
          rw [hbit, decide_eq_false (show ¬ 0 ≤ (i : Int) - -n by omega)]
          simp
      rw [e1]
      conv => rhs; rw [h512', cnt_add]
      rw [cnt_none (b := m), Nat.add_zero]
      intro i hi
      rw [Nat.testBit_div_two_pow, tbit, hN _ (by omega)]
      simp
    · obtain ⟨m, hm⟩ : ∃ m : Nat, n = m := ⟨n.toNat, by omega⟩
      have h512 : 512 = m + (512 - m) := by omega
      have h512' : 512 = (512 - m) + m := by omega
      have e2 : cnt 512 (shiftN N n) = cnt (512 - m) N := by
        conv => lhs; rw [h512, cnt_add]
        rw [cnt_none, Nat.zero_add]
        · apply cnt_congr
          intro i hi
          rw [Nat.testBit_div_two_pow, tbit, decide_eq_true (show i + m < 512 by omega), decide_eq_true (show 0 ≤ ((i + m : Nat) : Int) - n by omega), Bool.true_and, Bool.true_and]
          congr 1
          omega
        · intro i hi
          rw [tbit, decide_eq_false (show ¬ 0 ≤ (i : Int) - n by omega)]
          simp
      rw [e2]
      conv => lhs; rw [h512', cnt_add]
      rw [cnt_none (b := m), Nat.add_zero]
      · apply cnt_congr
        intro i hi
        rw [hbit, tbit, decide_eq_true (show i < 512 by omega), decide_eq_true (show 0 ≤ (i : Int) - -n by omega), decide_eq_true (show ((i : Int) - -n).toNat < 512 by omega), decide_eq_true (show 0 ≤ (((i : Int) - -n).toNat : Int) - n by omega)]
        simp only [Bool.true_and]
        rw [show ((((i : Int) - -n).toNat : Int) - n).toNat = i by omega]
      · intro i hi
        rw [Nat.testBit_div_two_pow, hbit, tbit, decide_eq_false (show ¬ ((((i + (512 - m) : Nat) : Int) - -n).toNat < 512) by omega)]
        simp
theorem shift_sub {N : Nat} (hN : Fits N) (n : Int) : subN (shiftN (shiftN N n) (-n)) N = true := by
  unfold subN
  rw [decide_eq_true_iff]
  unfold orN
  apply Nat.eq_of_testBit_eq
  intro i
  rw [Nat.testBit_or, testBit_shift (fits_shift hN n), testBit_shift hN]
  by_cases h1 : 0 ≤ (i : Int) - -n
  · have e : ((((i : Int) - -n).toNat : Int) - n).toNat = i := by omega
    rw [e]
    cases N.testBit i <;> simp
  · rw [decide_eq_false h1]
    simp
theorem shift_shift {N : Nat} (hN : Fits N) (n m : Int) (h : 0 ≤ n ∧ 0 ≤ m ∨ n ≤ 0 ∧ m ≤ 0) : shiftN (shiftN N n) m = shiftN N (n + m) := by
  apply Nat.eq_of_testBit_eq
  intro i
  rw [testBit_shift (fits_shift hN n), testBit_shift hN, testBit_shift hN]
  by_cases hi : i < 512
  · rw [decide_eq_true hi]
    by_cases h1 : 0 ≤ (i : Int) - m
    · have e : ((((i : Int) - m).toNat : Int) - n) = (i : Int) - (n + m) := by omega
      rw [decide_eq_true h1, e]
      by_cases h2 : ((i : Int) - m).toNat < 512
      · rw [decide_eq_true h2]
        simp
      · rw [decide_eq_false h2]
        by_cases h3 : 0 ≤ (i : Int) - (n + m)
        · rw [hN ((i : Int) - (n + m)).toNat (by omega)]
          simp
        · rw [decide_eq_false h3]
          simp
    · rw [decide_eq_false h1, decide_eq_false (show ¬ 0 ≤ (i : Int) - (n + m) by omega)]
      simp
  · rw [decide_eq_false hi]
    simp

end Go.Proofs.Ytghchlppdhfoeab
