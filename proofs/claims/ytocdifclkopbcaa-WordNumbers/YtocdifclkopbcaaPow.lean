/- Contract of word.Power: ErrLetters, ErrLetter; ErrArg below 0; ErrSize where the power has more than 4096 letters; else the power. -/
import Derived.Test.YtocdifclkopbcaaBld
namespace Go.Proofs.Ytocdifclkopbcaa
open Go.RowKit

/-- n times a word. -/
def powL (U : List UInt8) : Nat → List UInt8
  | 0 => []
  | n + 1 => powL U n ++ U
theorem powL_len (U : List UInt8) (n : Nat) : (powL U n).length = n * U.length := by
  induction n with
  | zero => simp [powL]
  | succ n ih => rw [powL, List.length_append, ih, Nat.succ_mul]
theorem powL_nil (n : Nat) : powL [] n = [] := by
  induction n with
  | zero => rfl
  | succ n ih => rw [powL, ih]; rfl
theorem cells_str (U : List UInt8) : Lib.strCells (str U) = Lib.byteCells U := by simp [Lib.strCells, Lib.byteCells, str_list]

set_option maxHeartbeats 1000000 in
set_option maxRecDepth 100000 in
theorem power_do (k : Int) (U : List UInt8) (n : Nat) (w : World) (hc : chk k (str U) = 0) (h0 : U ≠ []) (hn : n ≤ 4096 / U.length) :
    Calls Try.prog 21 #[.int .i64 k, .string (str U), .int .i64 n] w fun e w' => e = .returned (.tuple #[.string (str (powL U n)), .int .i64 0]) ∧ Below w.heap.size w w' := by
  have HC : Hid (chk k (str U) = 0) := hc
  have hpos : 0 < U.length := List.length_pos_iff.2 h0
  have hmul : n * U.length ≤ 4096 := by
    have := Nat.mul_le_mul_right U.length hn
    have := Nat.div_mul_le_self 4096 U.length
    omega
  have he : (str U).toList.isEmpty = false := by rw [ByteArray.toList_eq, str_list]; simpa using h0
  have hq : (n : Int) ≤ 4096 / (U.length : Int) := by
    have e : (4096 : Int) / (U.length : Int) = ((4096 / U.length : Nat) : Int) := by simp
    rw [e]
    omega
  have HM : Hid (n * U.length ≤ 4096) := hmul
  have hsz := str_size U
  have hn4 : n ≤ 4096 := Nat.le_trans hn (Nat.div_le_self _ _)
  have hd0 : 0 ≤ (4096 : Int) / (U.length : Int) := Int.ediv_nonneg (by omega) (by omega)
  have hd1 : (4096 : Int) / (U.length : Int) ≤ 4096 := Int.ediv_le_self _ (by omega)
  have hq2 : decide ((4096 : Int) / (U.length : Int) < (n : Int)) = false := by rw [decide_eq_false_iff_not]; omega
  have hn0 : decide ((n : Int) < 0) = false := by rw [decide_eq_false_iff_not]; omega
  clear hc h0 hn hmul
  go_enter Try.func21, Try.ntmps21
  go_wp2_with fail
  refine (check_any _ _ _).mono ?_
  rintro e w1 ⟨rfl, b1⟩
  rw [HC.out]
  go_wp2_with fail
  go_loopw [26] (fun vi wr => ∃ i : Nat, vi = .int .i64 i ∧ i ≤ n ∧ Lib.IsBuilder 70 5 w1.heap.size w1.heap.size (Lib.byteCells (powL U i)) wr ∧ Below w1.heap.size w1 wr) (fun vi _ => n - (intOf vi).toNat)
  case atStart => exact ⟨0, rfl, Nat.zero_le _, Lib.fresh_isBuilder _ _ _, (Below.refl _ _).alloc (Nat.le_refl _) _⟩
  case round =>
    obtain ⟨i, rfl, hi, hI, hb⟩ := hrel
    have HI : Hid _ := hI
    clear hI
    by_cases hlt : i < n
    · go_wp2_with fail
      refine (writeString_any w1.heap.size w1.heap.size _ (str U) _ HI.out ?_ hb.size).mono ?_
      · rw [Lib.byteCells_length, powL_len, str_size]
        have h1 : i * U.length ≤ n * U.length := Nat.mul_le_mul_right _ (by omega)
        have h2 : U.length ≤ n * U.length := Nat.le_mul_of_pos_left _ (by omega)
        have := HM.out
        omega
      rintro e w2 ⟨rfl, h2, b2⟩
      rw [cells_str, ← Lib.byteCells_append] at h2
      have H2 : Hid (Lib.IsBuilder 70 5 w1.heap.size w1.heap.size (Lib.byteCells (powL U (i + 1))) w2) := .inr h2
      clear h2
      go_wp2_with fail
      go_roundw
      case rel => exact ⟨i + 1, by go_num, by omega, H2.out, hb.trans b2⟩
      case measure => simp [intOf]; omega
    · have hin : i = n := by omega
      subst hin
      go_wp2_with fail
      refine (bString_any w1.heap.size w1.heap.size (powL U i) _ HI.out hb.size).mono ?_
      rintro e w2 ⟨rfl, b2⟩
      go_wp2_with fail
      go_ret2
      exact ⟨rfl, go_on b1 (hb.trans b2)⟩

set_option maxHeartbeats 1000000 in
theorem power_err (k : Int) (U : List UInt8) (n : Int) (w : World) (hc : chk k (str U) ≠ 0) :
    Calls Try.prog 21 #[.int .i64 k, .string (str U), .int .i64 n] w fun e w' => e = .returned (.tuple #[.string ⟨#[]⟩, .int .i64 (chk k (str U))]) ∧ Below w.heap.size w w' := by
  have hg : (chk k (str U) != 0) = true := by simpa using hc
  clear hc
  go_enter Try.func21, Try.ntmps21
  go_wp2_with fail
  refine (check_any _ _ _).mono ?_
  rintro e w1 ⟨rfl, b1⟩
  go_wp2_with fail
  go_ret2
  exact ⟨rfl, b1⟩

/-- The error of Power where the word is one. -/
def powE (U : List UInt8) (n : Int) : Int := if n < 0 then 1 else if U = [] then 0 else if 4096 / (U.length : Int) < n then 6 else 0

set_option maxHeartbeats 1000000 in
theorem power_none (k : Int) (U : List UInt8) (n : Int) (w : World) (hc : chk k (str U) = 0) (h : n < 0 ∨ U = [] ∨ 4096 / (U.length : Int) < n) :
    Calls Try.prog 21 #[.int .i64 k, .string (str U), .int .i64 n] w fun e w' => e = .returned (.tuple #[.string ⟨#[]⟩, .int .i64 (powE U n)]) ∧ Below w.heap.size w w' := by
  have HC : Hid (chk k (str U) = 0) := hc
  clear hc
  by_cases hn : n < 0
  · have HE : Hid (powE U n = 1) := by show powE U n = 1; unfold powE; rw [if_pos hn]
    clear h
    go_enter Try.func21, Try.ntmps21
    go_wp2_with fail
    refine (check_any _ _ _).mono ?_
    rintro e w1 ⟨rfl, b1⟩
    rw [HC.out]
    go_wp2_with fail
    go_ret2
    exact ⟨ret_tup rfl HE.out.symm, b1⟩
  by_cases h0 : U = []
  · have HE : Hid (powE U n = 0) := by show powE U n = 0; unfold powE; rw [if_neg hn, if_pos h0]
    have he : (str U).toList.isEmpty = true := by rw [ByteArray.toList_eq, str_list, h0]; rfl
    clear h h0
    go_enter Try.func21, Try.ntmps21
    go_wp2_with fail
    refine (check_any _ _ _).mono ?_
    rintro e w1 ⟨rfl, b1⟩
    rw [HC.out]
    go_wp2_with fail
    go_ret2
    exact ⟨ret_tup rfl HE.out.symm, b1⟩
  have hq : 4096 / (U.length : Int) < n := by
    rcases h with h | h | h
    · omega
    · exact absurd h h0
    · exact h
  have HE : Hid (powE U n = 6) := by show powE U n = 6; unfold powE; rw [if_neg hn, if_neg h0, if_pos hq]
  have he : (str U).toList.isEmpty = false := by rw [ByteArray.toList_eq, str_list]; simpa using h0
  have hpos : 0 < U.length := List.length_pos_iff.2 h0
  have hsz := str_size U
  have hd0 : 0 ≤ (4096 : Int) / (U.length : Int) := Int.ediv_nonneg (by omega) (by omega)
  have hd1 : (4096 : Int) / (U.length : Int) ≤ 4096 := Int.ediv_le_self _ (by omega)
  clear h h0
  go_enter Try.func21, Try.ntmps21
  go_wp2_with fail
  refine (check_any _ _ _).mono ?_
  rintro e w1 ⟨rfl, b1⟩
  rw [HC.out]
  go_wp2_with fail
  go_ret2
  exact ⟨ret_tup rfl HE.out.symm, b1⟩

end Go.Proofs.Ytocdifclkopbcaa
