/- Contracts of the small calls of package bits, of math/bits.OnesCount64 and of the law's num: what each answers, for every input; the world is as it was. -/
import Derived.Test.YtihjhkbbpphocaaBm
import Derived.IntWalk
namespace Go.Proofs.Ytihjhkbbpphocaa
open Go.RowKit

theorem ret_int {k : IntKind} {a b : Int} (h : a = b) : Ending.returned (.int k a) = .returned (.int k b) := by rw [h]
theorem ret_bool {a b : Bool} (h : a = b) : Ending.returned (.bool a) = .returned (.bool b) := by rw [h]

/-! ### What the model's operations are, in plain numbers -/
theorem and_u64B {A B : Int} (a b : Nat) (hA : A = a) (hB : B = b) (ha : a < 18446744073709551616) (hb : b < 18446744073709551616) : bits .and .u64 A B = ((a &&& b : Nat) : Int) := by
  rw [hA, hB, bits_and_u64_nat a b ha hb]
theorem and_i64 (a b : Nat) (ha : a < 9223372036854775808) (hb : b < 9223372036854775808) : bits .and .i64 (a : Int) (b : Int) = ((a &&& b : Nat) : Int) := by
  have hx : a &&& b < 2 ^ 63 := Nat.and_lt_two_pow _ (by omega)
  have h1 : (BitVec.ofInt 64 (a : Int)).toNat = a := by
    rw [BitVec.ofInt_natCast, BitVec.toNat_ofNat]; exact Nat.mod_eq_of_lt (by omega)
  have h2 : (BitVec.ofInt 64 (b : Int)).toNat = b := by
    rw [BitVec.ofInt_natCast, BitVec.toNat_ofNat]; exact Nat.mod_eq_of_lt (by omega)
  show IntKind.i64.wrap ((BitVec.ofInt 64 (a : Int) &&& BitVec.ofInt 64 (b : Int)).toNat : Int) = _
  rw [BitVec.toNat_and, h1, h2]
  exact IntWalk.i64_in _ (by omega)
theorem wrap_nat (a : Nat) (h : a < 18446744073709551616) : IntKind.u64.wrap (a : Int) = a := by
  rw [IntKind.wrap_u64]
  omega
theorem two_pow_lt (j : Nat) (h : j < 64) : 2 ^ j < 18446744073709551616 := by
  have : 2 ^ j < 2 ^ 64 := Nat.pow_lt_pow_right (by decide) h
  exact this
theorem ones_e1 (x : Nat) (hx : x < 18446744073709551616) : IntKind.u64.wrap (bits .and .u64 ((x : Int) / 2) 6148914691236517205 + bits .and .u64 (x : Int) 6148914691236517205) = ((s1 8 x : Nat) : Int) := by
  rw [and_u64B (A := (x : Int) / 2) (B := 6148914691236517205) (x / 2) 6148914691236517205 (by omega) rfl (by omega) (by decide), and_u64B (A := (x : Int)) (B := 6148914691236517205) x 6148914691236517205 rfl rfl hx (by decide)]
  have e : s1 8 x = (x / 2 &&& 6148914691236517205) + (x &&& 6148914691236517205) := rfl
  have h1 : x / 2 &&& 6148914691236517205 ≤ 6148914691236517205 := Nat.and_le_right
  have h2 : x &&& 6148914691236517205 ≤ 6148914691236517205 := Nat.and_le_right
  rw [e, IntKind.wrap_u64]
  omega
theorem s1_lt (x : Nat) : s1 8 x < 18446744073709551616 := by
  have e : s1 8 x = (x / 2 &&& 6148914691236517205) + (x &&& 6148914691236517205) := rfl
  have h1 : x / 2 &&& 6148914691236517205 ≤ 6148914691236517205 := Nat.and_le_right
  have h2 : x &&& 6148914691236517205 ≤ 6148914691236517205 := Nat.and_le_right
  rw [e]
  omega
theorem s2_lt (x : Nat) : s2 8 x ≤ 7378697629483820646 := by
  have e : s2 8 x = (x / 4 &&& 3689348814741910323) + (x &&& 3689348814741910323) := rfl
  have h1 : x / 4 &&& 3689348814741910323 ≤ 3689348814741910323 := Nat.and_le_right
  have h2 : x &&& 3689348814741910323 ≤ 3689348814741910323 := Nat.and_le_right
  rw [e]
  omega
theorem ones_e2 (x : Nat) (hx : x < 18446744073709551616) : IntKind.u64.wrap (bits .and .u64 ((x : Int) / 4) 3689348814741910323 + bits .and .u64 (x : Int) 3689348814741910323) = ((s2 8 x : Nat) : Int) := by
  rw [and_u64B (A := (x : Int) / 4) (B := 3689348814741910323) (x / 4) 3689348814741910323 (by omega) rfl (by omega) (by decide), and_u64B (A := (x : Int)) (B := 3689348814741910323) x 3689348814741910323 rfl rfl hx (by decide)]
  have h := s2_lt x
  have e : s2 8 x = (x / 4 &&& 3689348814741910323) + (x &&& 3689348814741910323) := rfl
  rw [e] at h ⊢
  rw [IntKind.wrap_u64]
  omega
theorem ones_e3 (x : Nat) (hx : x ≤ 7378697629483820646) : bits .and .u64 (IntKind.u64.wrap ((x : Int) / 16 + (x : Int))) 1085102592571150095 = ((s3 8 x : Nat) : Int) := by
  rw [and_u64B (B := 1085102592571150095) (x / 16 + x) 1085102592571150095 (by rw [IntKind.wrap_u64]; omega) rfl (by omega) (by decide)]
  rfl
theorem ones_eq (x : Nat) (hx : x < 18446744073709551616) (y1 y2 y3 y4 y5 y6 : Int) (h1 : y1 = IntKind.u64.wrap (bits .and .u64 ((x : Int) / 2) 6148914691236517205 + bits .and .u64 (x : Int) 6148914691236517205))
    (h2 : y2 = IntKind.u64.wrap (bits .and .u64 (y1 / 4) 3689348814741910323 + bits .and .u64 y1 3689348814741910323)) (h3 : y3 = bits .and .u64 (IntKind.u64.wrap (y2 / 16 + y2)) 1085102592571150095)
    (h4 : y4 = IntKind.u64.wrap (y3 + y3 / 256)) (h5 : y5 = IntKind.u64.wrap (y4 + y4 / 65536)) (h6 : y6 = IntKind.u64.wrap (y5 + y5 / 4294967296)) : bits .and .i64 (wrap64 y6) 127 = ((cntB 64 x : Nat) : Int) := by
  rw [ones_e1 x hx] at h1
  subst h1
  rw [ones_e2 _ (s1_lt x)] at h2
  subst h2
  rw [ones_e3 _ (s2_lt _)] at h3
  subst h3
  obtain ⟨a, b, ha, hla, hb, hlb, hc, hm⟩ := pop64 x _ hx rfl
  generalize s3 8 (s2 8 (s1 8 x)) = y at *
  have f4 : y4 = a := by rw [h4, IntKind.wrap_u64]; omega
  subst f4
  have f5 : y5 = b := by rw [h5, IntKind.wrap_u64]; omega
  subst f5
  have f6 : y6 = ((b + b / 4294967296 : Nat) : Int) := by rw [h6, IntKind.wrap_u64]; omega
  rw [f6]
  have f7 : wrap64 ((b + b / 4294967296 : Nat) : Int) = ((b + b / 4294967296 : Nat) : Int) := by unfold wrap64; omega
  rw [f7, show (127 : Int) = ((127 : Nat) : Int) from rfl, and_i64 _ _ hc (by decide), show (127 : Nat) = 2 ^ 7 - 1 from rfl, Nat.and_two_pow_sub_one_eq_mod]
  exact congrArg Nat.cast hm

theorem isNumber_any (i : Int) (w : World) :
    Calls Try.prog 63 #[.int .i64 i] w fun e w' => e = .returned (.bool (decide (0 ≤ i ∧ i < 512))) ∧ w' = w := by
  by_cases h0 : 0 ≤ i
  · by_cases h1 : i < 512
    · go_enter Try.func63, Try.ntmps63
      go_wp2
      go_ret
      exact ⟨ret_bool (by simp [h0, h1]), rfl⟩
    · go_enter Try.func63, Try.ntmps63
      go_wp2
      go_ret
      exact ⟨ret_bool (by simp; omega), rfl⟩
  · go_enter Try.func63, Try.ntmps63
    go_wp2
    go_ret
    exact ⟨ret_bool (by simp; omega), rfl⟩

theorem bitOf_any (i : Nat) (hi : i < 512) (w : World) :
    Calls Try.prog 64 #[.int .i64 i] w fun e w' => e = .returned (.int .u64 (2 ^ (i % 64) : Nat)) ∧ w' = w := by
  go_enter Try.func64, Try.ntmps64
  go_wp2
  go_ret
  refine ⟨ret_int ?_, rfl⟩
  have := wrap_nat (2 ^ (i % 64)) (two_pow_lt _ (by omega))
  simpa using this

theorem low_div (m : Nat) (h : m ≤ 64) : (18446744073709551615 : Int) / 2 ^ (64 - m) = ((2 ^ m - 1 : Nat) : Int) := by
  have e : (18446744073709551615 : Nat) / 2 ^ (64 - m) = 2 ^ m - 1 := by
    apply Nat.eq_of_testBit_eq
    intro i
    rw [Nat.testBit_div_two_pow, Nat.testBit_two_pow_sub_one, show (18446744073709551615 : Nat) = 2 ^ 64 - 1 from rfl, Nat.testBit_two_pow_sub_one]
    rw [decide_eq_decide]
    omega
  rw [← e]
  simp

end Go.Proofs.Ytihjhkbbpphocaa
