/- Arithmetic alone (of no program): a set of 512 bits as one number, its eight words of 64 bits, the words' single bits, how many are 1. -/
import Derived.Test.YtihjhkbbpphocaaRows
import Derived.WalkKit
import Derived.Laws.Bits64b
import Derived.Lib.TrailingZeros
namespace Go.Proofs.Ytihjhkbbpphocaa
open Go.RowKit

/-- Word k of a number. -/
def word (N k : Nat) : Nat := N / 2 ^ (64 * k) % 18446744073709551616
theorem word_lt (N k : Nat) : word N k < 18446744073709551616 := Nat.mod_lt _ (by decide)
theorem testBit_word (N k j : Nat) : (word N k).testBit j = (decide (j < 64) && N.testBit (64 * k + j)) := by
  unfold word
  rw [show (18446744073709551616 : Nat) = 2 ^ 64 from rfl, Nat.testBit_mod_two_pow, Nat.testBit_div_two_pow, Nat.add_comm j]
theorem word_testBit (N i : Nat) : N.testBit i = (word N (i / 64)).testBit (i % 64) := by
  have h : i % 64 < 64 := Nat.mod_lt _ (by decide)
  rw [testBit_word, Nat.div_add_mod]
  simp [h]
/-- A number of 512 bits. -/
def Fits (N : Nat) : Prop := ∀ i, 512 ≤ i → N.testBit i = false
theorem big_testBit {N i : Nat} (hN : Fits N) (hi : 512 ≤ i) : N.testBit i = false := hN i hi
theorem small_testBit {x i : Nat} (hx : x < 18446744073709551616) (hi : 64 ≤ i) : x.testBit i = false :=
  Nat.testBit_lt_two_pow (Nat.lt_of_lt_of_le hx (Nat.pow_le_pow_right (n := 2) (by decide) hi))
theorem lt_of_bits {x n : Nat} (h : ∀ i, n ≤ i → x.testBit i = false) : x < 2 ^ n := Nat.lt_pow_two_of_testBit x h
/-- Words with the same bits are the same. -/
theorem word_ext {x y : Nat} (hx : x < 18446744073709551616) (hy : y < 18446744073709551616) (h : ∀ j, j < 64 → x.testBit j = y.testBit j) : x = y := by
  apply Nat.eq_of_testBit_eq
  intro i
  by_cases hi : i < 64
  · exact h i hi
  · rw [small_testBit hx (by omega), small_testBit hy (by omega)]
theorem set_ext {N M : Nat} (hN : Fits N) (hM : Fits M) (h : ∀ i, i < 512 → N.testBit i = M.testBit i) : N = M := by
  apply Nat.eq_of_testBit_eq
  intro i
  by_cases hi : i < 512
  · exact h i hi
  · rw [big_testBit hN (by omega), big_testBit hM (by omega)]
theorem words_ext {N M : Nat} (hN : Fits N) (hM : Fits M) (h : ∀ k, k < 8 → word N k = word M k) : N = M := by
  apply set_ext hN hM
  intro i hi
  rw [word_testBit N, word_testBit M, h (i / 64) (by omega)]
theorem word_of_bits {N k x : Nat} (hx : x < 18446744073709551616) (h : ∀ j, j < 64 → N.testBit (64 * k + j) = x.testBit j) : word N k = x := by
  apply word_ext (word_lt N k) hx
  intro j hj
  rw [testBit_word, h j hj]
  simp [hj]

/-- Eight cells. -/
def cellsF (f : Nat → Nat) : Array Value := #[.int .u64 (f 0), .int .u64 (f 1), .int .u64 (f 2), .int .u64 (f 3), .int .u64 (f 4), .int .u64 (f 5), .int .u64 (f 6), .int .u64 (f 7)]
/-- The value of the set N. -/
def setV (N : Nat) : Value := .agg (cellsF (word N))
theorem cellsF_size (f : Nat → Nat) : (cellsF f).size = 8 := rfl
theorem cellsF_congr {f g : Nat → Nat} (h : ∀ k, k < 8 → f k = g k) : cellsF f = cellsF g := by
  unfold cellsF
  rw [h 0 (by decide), h 1 (by decide), h 2 (by decide), h 3 (by decide), h 4 (by decide), h 5 (by decide), h 6 (by decide), h 7 (by decide)]
theorem eight_cases {k : Nat} (h : k < 8) : k = 0 ∨ k = 1 ∨ k = 2 ∨ k = 3 ∨ k = 4 ∨ k = 5 ∨ k = 6 ∨ k = 7 := by omega
theorem cellsF_get (f : Nat → Nat) {k : Nat} (h : k < 8) : (cellsF f)[k]? = some (.int .u64 (f k)) := by
  rcases eight_cases h with rfl | rfl | rfl | rfl | rfl | rfl | rfl | rfl <;> rfl
theorem cellsF_set (f : Nat → Nat) {k : Nat} (v : Nat) (h : k < 8) : (cellsF f).setIfInBounds k (.int .u64 v) = cellsF (fun j => if j = k then v else f j) := by
  rcases eight_cases h with rfl | rfl | rfl | rfl | rfl | rfl | rfl | rfl <;> rfl
theorem cellsF_inj {f g : Nat → Nat} (h : cellsF f = cellsF g) : ∀ k, k < 8 → f k = g k := by
  intro k hk
  have h1 := cellsF_get f hk
  rw [h, cellsF_get g hk] at h1
  simp only [Option.some.injEq, Value.int.injEq, true_and] at h1
  omega
theorem setV_inj {N M : Nat} (hN : Fits N) (hM : Fits M) (h : setV N = setV M) : N = M := by
  unfold setV at h
  exact words_ext hN hM (cellsF_inj (Value.agg.inj h))
/-- The number of the first n words. -/
def ofW (f : Nat → Nat) : Nat → Nat
  | 0 => 0
  | n + 1 => 2 ^ (64 * n) * f n + ofW f n
theorem ofW_lt (f : Nat → Nat) (h : ∀ k, f k < 18446744073709551616) (n : Nat) : ofW f n < 2 ^ (64 * n) := by
  induction n with
  | zero => simp [ofW]
  | succ n ih =>
    rw [ofW, Nat.mul_succ, Nat.pow_add]
    have h1 : f n + 1 ≤ 2 ^ 64 := h n
    have h2 := Nat.mul_le_mul_left (2 ^ (64 * n)) h1
    rw [Nat.mul_add, Nat.mul_one] at h2
    omega
theorem ofW_testBit (f : Nat → Nat) (h : ∀ k, f k < 18446744073709551616) (n i : Nat) : (ofW f n).testBit i = (decide (i < 64 * n) && (f (i / 64)).testBit (i % 64)) := by
  induction n with
  | zero => simp [ofW]
  | succ n ih =>
    rw [ofW, Nat.testBit_two_pow_mul_add _ (ofW_lt f h n), ih]
    by_cases hi : i < 64 * n
    · rw [if_pos hi]
      have : i < 64 * (n + 1) := by omega
      simp [hi, this]
    · rw [if_neg hi]
      by_cases h2 : i < 64 * (n + 1)
      · have e1 : i / 64 = n := by omega
        have e2 : i - 64 * n = i % 64 := by omega
        simp [h2, e1, e2]
      · rw [small_testBit (h n) (by omega)]
        simp [h2]
/-- Eight words make a number. -/
theorem of_words (f : Nat → Nat) (h : ∀ k, k < 8 → f k < 18446744073709551616) : ∃ N, Fits N ∧ ∀ k, k < 8 → word N k = f k := by
  have h' : ∀ k, (fun k => if k < 8 then f k else 0) k < 18446744073709551616 := by
    intro k
    by_cases hk : k < 8
    · simp only [hk, if_true]; exact h k hk
    · simp only [hk, if_false]; decide
  refine ⟨ofW (fun k => if k < 8 then f k else 0) 8, ?_, ?_⟩
  · intro i hi
    rw [ofW_testBit _ h']
    have : ¬ i < 64 * 8 := by omega
    simp [this]
  · intro k hk
    apply word_of_bits (h k hk)
    intro j hj
    rw [ofW_testBit _ h']
    have h1 : 64 * k + j < 64 * 8 := by omega
    have h2 : (64 * k + j) / 64 = k := by omega
    have h3 : (64 * k + j) % 64 = j := by omega
    have h4 : 64 * k + j < 512 := by omega
    simp [h2, h3, hk, h4]

/-! ### Bits of words -/
/-- a, but what b has. -/
def butN (a b : Nat) : Nat := a ^^^ (a &&& b)
theorem testBit_but (a b i : Nat) : (butN a b).testBit i = (a.testBit i && !b.testBit i) := by
  unfold butN
  rw [Nat.testBit_xor, Nat.testBit_and]
  cases a.testBit i <;> cases b.testBit i <;> rfl
theorem bits_andNot_u64_nat (a b : Nat) (ha : a < 18446744073709551616) (hb : b < 18446744073709551616) :
    bits .andNot .u64 (a : Int) (b : Int) = ((butN a b : Nat) : Int) := by
  have hx : butN a b < 2 ^ 64 := by
    apply lt_of_bits
    intro i hi
    rw [testBit_but, small_testBit ha hi]
    rfl
  have h1 : (BitVec.ofInt 64 (a : Int)).toNat = a := by
    rw [BitVec.ofInt_natCast, BitVec.toNat_ofNat]; exact Nat.mod_eq_of_lt (by omega)
  have h2 : (BitVec.ofInt 64 (b : Int)).toNat = b := by
    rw [BitVec.ofInt_natCast, BitVec.toNat_ofNat]; exact Nat.mod_eq_of_lt (by omega)
  show IntKind.u64.wrap ((BitVec.ofInt 64 (a : Int) &&& ~~~ BitVec.ofInt 64 (b : Int)).toNat : Int) = _
  rw [BitVec.toNat_and, BitVec.toNat_not, h1, h2, IntKind.wrap_u64]
  have e : a &&& (2 ^ 64 - 1 - b) = butN a b := by
    apply Nat.eq_of_testBit_eq
    intro i
    rw [Nat.testBit_and, testBit_but, show 2 ^ 64 - 1 - b = 2 ^ 64 - (b + 1) by omega, Nat.testBit_two_pow_sub_succ (by omega)]
    by_cases hi : i < 64
    · simp [hi]
    · rw [small_testBit ha (by omega)]
      rfl
  rw [e]
  omega

/-! ### How many bits are 1 -/
def cntB (b N : Nat) : Nat := ((List.range b).filter fun i => N.testBit i).length
theorem cnt_zero (N : Nat) : cntB 0 N = 0 := rfl
theorem cnt_succ (b N : Nat) : cntB (b + 1) N = cntB b N + if N.testBit b then 1 else 0 := by
  unfold cntB
  rw [List.range_succ, List.filter_append, List.length_append]
  congr 1
  by_cases h : N.testBit b <;> simp [h]
theorem cnt_add (a b N : Nat) : cntB (a + b) N = cntB a N + cntB b (N / 2 ^ a) := by
  induction b with
  | zero => rfl
  | succ b ih => rw [← Nat.add_assoc, cnt_succ, ih, cnt_succ, Nat.testBit_div_two_pow, Nat.add_comm b a, Nat.add_assoc]
theorem cnt_congr {b N M : Nat} (h : ∀ i, i < b → N.testBit i = M.testBit i) : cntB b N = cntB b M := by
  induction b with
  | zero => rfl
  | succ b ih => rw [cnt_succ, cnt_succ, ih (fun i hi => h i (by omega)), h b (by omega)]
theorem cnt_leB (b N : Nat) : cntB b N ≤ b := by
  induction b with
  | zero => simp [cnt_zero]
  | succ b ih => rw [cnt_succ]; split <;> omega
theorem cnt_mod (b N : Nat) : cntB b (N % 2 ^ b) = cntB b N := cnt_congr fun i hi => by rw [Nat.testBit_mod_two_pow]; simp [hi]
/-- How many bits are 1 in the first k words. -/
def sumW (N : Nat) : Nat → Nat
  | 0 => 0
  | k + 1 => sumW N k + cntB 64 (word N k)
theorem sumW_eq (N k : Nat) : sumW N k = cntB (64 * k) N := by
  induction k with
  | zero => rfl
  | succ k ih =>
    rw [sumW, ih, Nat.mul_succ, cnt_add]
    congr 1
    apply cnt_congr
    intro i hi
    rw [testBit_word, Nat.testBit_div_two_pow, Nat.add_comm i]
    simp [hi]

/-! ### Counting in parallel -/
theorem and_bytes (s m h l M : Nat) (hs : s ≤ 8) (hl : l < 256) (hm : m < 2 ^ (8 - s)) : ((h * 256 + l) / 2 ^ s) &&& (M * 256 + m) = ((h / 2 ^ s) &&& M) * 256 + ((l / 2 ^ s) &&& m) := by
  have hm8 : m < 2 ^ 8 := Nat.lt_of_lt_of_le hm (Nat.pow_le_pow_right (by decide) (by omega))
  have hlm : (l / 2 ^ s) &&& m < 2 ^ 8 := Nat.and_lt_two_pow _ hm8
  apply Nat.eq_of_testBit_eq
  intro i
  rw [Nat.testBit_and, Nat.testBit_div_two_pow, Nat.mul_comm h, Nat.mul_comm M, Nat.mul_comm (h / 2 ^ s &&& M), show (256 : Nat) = 2 ^ 8 from rfl]
  rw [Nat.testBit_two_pow_mul_add h hl, Nat.testBit_two_pow_mul_add M hm8, Nat.testBit_two_pow_mul_add _ hlm]
  by_cases hi : i < 8
  · rw [if_pos hi, if_pos hi, Nat.testBit_and, Nat.testBit_div_two_pow]
    by_cases h2 : i + s < 8
    · rw [if_pos h2]
    · have : m.testBit i = false := Nat.testBit_lt_two_pow (Nat.lt_of_lt_of_le hm (Nat.pow_le_pow_right (by decide) (by omega)))
      rw [this, Bool.and_false, Bool.and_false]
  · rw [if_neg hi, if_neg hi, if_neg (by omega), Nat.testBit_and, Nat.testBit_div_two_pow, show i + s - 8 = i - 8 + s by omega]
theorem and_bytes0 (m h l M : Nat) (hl : l < 256) (hm : m < 256) : (h * 256 + l) &&& (M * 256 + m) = (h &&& M) * 256 + (l &&& m) := by
  have := and_bytes 0 m h l M (by decide) hl hm
  simpa using this
/-- The byte m, n times. -/
def rep (m : Nat) : Nat → Nat
  | 0 => 0
  | n + 1 => rep m n * 256 + m
def s1 (n x : Nat) : Nat := ((x / 2 ^ 1) &&& rep 85 n) + (x &&& rep 85 n)
def s2 (n x : Nat) : Nat := ((x / 2 ^ 2) &&& rep 51 n) + (x &&& rep 51 n)
def s3 (n x : Nat) : Nat := (x / 16 + x) &&& rep 15 n
theorem s1_bytes (n h l : Nat) (hl : l < 256) : s1 (n + 1) (h * 256 + l) = s1 n h * 256 + s1 1 l := by
  unfold s1
  rw [rep, and_bytes 1 85 h l _ (by decide) hl (by decide), and_bytes0 85 h l _ hl (by decide)]
  simp only [rep, Nat.zero_mul, Nat.zero_add]
  omega
theorem s2_bytes (n h l : Nat) (hl : l < 256) : s2 (n + 1) (h * 256 + l) = s2 n h * 256 + s2 1 l := by
  unfold s2
  rw [rep, and_bytes 2 51 h l _ (by decide) hl (by decide), and_bytes0 51 h l _ hl (by decide)]
  simp only [rep, Nat.zero_mul, Nat.zero_add]
  omega
theorem s3_bytes (n h l : Nat) (hl : l ≤ 68) (hh : h % 16 ≤ 4) : s3 (n + 1) (h * 256 + l) = s3 n h * 256 + s3 1 l := by
  unfold s3
  have e : (h * 256 + l) / 16 + (h * 256 + l) = (h / 16 + h) * 256 + (l / 16 + l + 16 * (h % 16)) := by omega
  rw [rep, e, and_bytes0 15 _ _ _ (by omega) (by decide)]
  congr 1
  simp only [rep, Nat.zero_mul, Nat.zero_add]
  rw [show (15 : Nat) = 2 ^ 4 - 1 from rfl, Nat.and_two_pow_sub_one_eq_mod, Nat.and_two_pow_sub_one_eq_mod]
  omega
theorem byte_facts : ∀ l : Fin 256, s1 1 l.val < 256 ∧ s2 1 (s1 1 l.val) ≤ 68 ∧ s2 1 (s1 1 l.val) % 16 ≤ 4 ∧ s3 1 (s2 1 (s1 1 l.val)) = cntB 8 l.val := by decide +kernel
/-- All three steps over n bytes, the first byte told apart. -/
theorem steps_bytes : ∀ (n h l : Nat), h < 256 ^ n → l < 256 →
    s3 (n + 1) (s2 (n + 1) (s1 (n + 1) (h * 256 + l))) = s3 n (s2 n (s1 n h)) * 256 + cntB 8 l ∧ s2 (n + 1) (s1 (n + 1) (h * 256 + l)) % 16 ≤ 4
  | 0, h, l, hh, hl => by
    have : h = 0 := by simpa using hh
    subst this
    obtain ⟨_, _, f3, f4⟩ := byte_facts ⟨l, hl⟩
    simp only at f3 f4
    refine ⟨?_, ?_⟩
    · rw [Nat.zero_mul, Nat.zero_add, Nat.zero_add, f4]
      simp [s1, s2, s3, rep]
    · rw [Nat.zero_mul]
      simpa using f3
  | n + 1, h, l, hh, hl => by
    obtain ⟨f1, f2, f3, f4⟩ := byte_facts ⟨l, hl⟩
    simp only at f1 f2 f3 f4
    have ih := (steps_bytes n (h / 256) (h % 256) (by rw [Nat.pow_succ] at hh; omega) (Nat.mod_lt _ (by decide))).2
    have e : h / 256 * 256 + h % 256 = h := by omega
    rw [e] at ih
    rw [s1_bytes _ _ _ hl, s2_bytes _ _ _ f1, s3_bytes _ _ _ f2 ih, f4]
    exact ⟨rfl, by omega⟩
theorem cnt_byte (n h l : Nat) (hl : l < 256) : cntB (8 + n) (h * 256 + l) = cntB 8 l + cntB n h := by
  rw [cnt_add]
  have e1 : (h * 256 + l) / 2 ^ 8 = h := by omega
  rw [e1]
  congr 1
  rw [← cnt_mod]
  congr 1
  omega
theorem byte_step (n x y : Nat) (hx : x < 256 ^ (n + 1)) (hy : s3 (n + 1) (s2 (n + 1) (s1 (n + 1) x)) = y) : ∃ y' h, h < 256 ^ n ∧ s3 n (s2 n (s1 n h)) = y' ∧ ∃ p, p ≤ 8 ∧ y = y' * 256 + p ∧ cntB (8 * (n + 1)) x = p + cntB (8 * n) h := by
  have hl : x % 256 < 256 := Nat.mod_lt _ (by decide)
  have hh : x / 256 < 256 ^ n := by rw [Nat.pow_succ] at hx; omega
  have e : x / 256 * 256 + x % 256 = x := by omega
  have st := (steps_bytes n (x / 256) (x % 256) hh hl).1
  have cb := cnt_byte (8 * n) (x / 256) (x % 256) hl
  rw [e] at st cb
  refine ⟨_, x / 256, hh, rfl, cntB 8 (x % 256), cnt_leB _ _, ?_, ?_⟩
  · rw [← hy, st]
  · rw [show 8 * (n + 1) = 8 + 8 * n by omega, cb]
theorem cut_div (c a b : Nat) (h : a < c) : (a + c * b) / c = b := by
  rw [Nat.add_mul_div_left _ _ (by omega), Nat.div_eq_of_lt h, Nat.zero_add]
theorem pop_a (y p1 p2 p3 p4 p5 p6 p7 p8 : Nat) (q1 : p1 ≤ 8)
    (hy : y = p1 + 256 * (p2 + 256 * p3 + 65536 * p4 + 16777216 * p5 + 4294967296 * p6 + 1099511627776 * p7 + 281474976710656 * p8)) :
    y + y / 256 = ((p1 + p2) + 256 * (p2 + p3)) + 65536 * ((p3 + p4) + 256 * (p4 + p5) + 65536 * (p5 + p6) + 16777216 * (p6 + p7) + 4294967296 * (p7 + p8) + 1099511627776 * p8) := by
  have : y / 256 = (p2 + 256 * p3 + 65536 * p4 + 16777216 * p5 + 4294967296 * p6 + 1099511627776 * p7 + 281474976710656 * p8) := by
    rw [hy, cut_div _ _ _ (by omega)]
  rw [this, hy]
  omega
theorem pop_b (a p1 p2 p3 p4 p5 p6 p7 p8 : Nat) (q1 : p1 ≤ 8) (q2 : p2 ≤ 8) (q3 : p3 ≤ 8)
    (ha : a = ((p1 + p2) + 256 * (p2 + p3)) + 65536 * ((p3 + p4) + 256 * (p4 + p5) + 65536 * (p5 + p6) + 16777216 * (p6 + p7) + 4294967296 * (p7 + p8) + 1099511627776 * p8)) :
    a + a / 65536 = ((p1 + p2 + p3 + p4) + 256 * (p2 + p3 + p4 + p5) + 65536 * (p3 + p4 + p5 + p6) + 16777216 * (p4 + p5 + p6 + p7)) + 4294967296 * ((p5 + p6 + p7 + p8) + 256 * (p6 + p7 + p8) + 65536 * (p7 + p8) + 16777216 * p8) := by
  have : a / 65536 = (p3 + p4) + 256 * (p4 + p5) + 65536 * (p5 + p6) + 16777216 * (p6 + p7) + 4294967296 * (p7 + p8) + 1099511627776 * p8 := by
    rw [ha, cut_div _ _ _ (by omega)]
  rw [this, ha]
  omega
theorem pop_c (b p1 p2 p3 p4 p5 p6 p7 p8 : Nat) (q1 : p1 ≤ 8) (q2 : p2 ≤ 8) (q3 : p3 ≤ 8) (q4 : p4 ≤ 8) (q5 : p5 ≤ 8) (q6 : p6 ≤ 8) (q7 : p7 ≤ 8) (q8 : p8 ≤ 8)
    (hb : b = ((p1 + p2 + p3 + p4) + 256 * (p2 + p3 + p4 + p5) + 65536 * (p3 + p4 + p5 + p6) + 16777216 * (p4 + p5 + p6 + p7)) + 4294967296 * ((p5 + p6 + p7 + p8) + 256 * (p6 + p7 + p8) + 65536 * (p7 + p8) + 16777216 * p8)) :
    b + b / 4294967296 < 9223372036854775808 ∧ (b + b / 4294967296) % 128 = p1 + p2 + p3 + p4 + p5 + p6 + p7 + p8 := by
  have : b / 4294967296 = (p5 + p6 + p7 + p8) + 256 * (p6 + p7 + p8) + 65536 * (p7 + p8) + 16777216 * p8 := by
    rw [hb, cut_div _ _ _ (by omega)]
  rw [this, hb]
  refine ⟨by omega, ?_⟩
  rw [show ∀ A B C D E F G : Nat, (A + 256 * B + 65536 * C + 16777216 * D) + 4294967296 * (E + 256 * F + 65536 * G + 16777216 * p8) + (E + 256 * F + 65536 * G + 16777216 * p8) = (A + E) + 128 * (2 * B + 512 * C + 131072 * D + 33554432 * (E + 256 * F + 65536 * G + 16777216 * p8) + 2 * F + 512 * G + 131072 * p8) from fun A B C D E F G => by omega,
    Nat.add_mul_mod_self_left, Nat.mod_eq_of_lt (by omega)]
  omega
/-- What OnesCount64 reckons. -/
theorem pop64 (x y : Nat) (hx : x < 18446744073709551616) (hy : s3 8 (s2 8 (s1 8 x)) = y) :
    ∃ a b, y + y / 256 = a ∧ a < 18446744073709551616 ∧ a + a / 65536 = b ∧ b < 18446744073709551616 ∧ b + b / 4294967296 < 9223372036854775808 ∧ (b + b / 4294967296) % 128 = cntB 64 x := by
  have hx' : x < 256 ^ (7 + 1) := by simpa using hx
  obtain ⟨y1, x1, h1, e1, p1, q1, f1, c1⟩ := byte_step 7 x y hx' hy
  clear hx'
  obtain ⟨y2, x2, h2, e2, p2, q2, f2, c2⟩ := byte_step 6 x1 y1 h1 e1
  obtain ⟨y3, x3, h3, e3, p3, q3, f3, c3⟩ := byte_step 5 x2 y2 h2 e2
  obtain ⟨y4, x4, h4, e4, p4, q4, f4, c4⟩ := byte_step 4 x3 y3 h3 e3
  obtain ⟨y5, x5, h5, e5, p5, q5, f5, c5⟩ := byte_step 3 x4 y4 h4 e4
  obtain ⟨y6, x6, h6, e6, p6, q6, f6, c6⟩ := byte_step 2 x5 y5 h5 e5
  obtain ⟨y7, x7, h7, e7, p7, q7, f7, c7⟩ := byte_step 1 x6 y6 h6 e6
  obtain ⟨y8, x8, h8, e8, p8, q8, f8, c8⟩ := byte_step 0 x7 y7 h7 e7
  have z8 : x8 = 0 := by simpa using h8
  have z8' : y8 = 0 := by rw [← e8, z8]; rfl
  have c9 : cntB (8 * 0) x8 = 0 := rfl
  rw [c9] at c8
  rw [c8] at c7
  rw [c7] at c6
  rw [c6] at c5
  rw [c5] at c4
  rw [c4] at c3
  rw [c3] at c2
  rw [c2] at c1
  have c1' : cntB 64 x = _ := c1
  clear c1 c2 c3 c4 c5 c6 c7 c8 c9 e1 e2 e3 e4 e5 e6 e7 e8 h1 h2 h3 h4 h5 h6 h7 h8 hy z8
  have hyv : y = p1 + 256 * (p2 + 256 * p3 + 65536 * p4 + 16777216 * p5 + 4294967296 * p6 + 1099511627776 * p7 + 281474976710656 * p8) := by
    rw [f1, f2, f3, f4, f5, f6, f7, f8, z8']
    omega
  clear f1 f2 f3 f4 f5 f6 f7 f8
  have ha := pop_a y p1 p2 p3 p4 p5 p6 p7 p8 q1 hyv
  have hb := pop_b _ p1 p2 p3 p4 p5 p6 p7 p8 q1 q2 q3 ha
  have hc := pop_c _ p1 p2 p3 p4 p5 p6 p7 p8 q1 q2 q3 q4 q5 q6 q7 q8 hb
  refine ⟨_, _, rfl, ?_, rfl, ?_, hc.1, ?_⟩
  · rw [ha]; clear ha hb hc hyv c1'; omega
  · rw [hb]; clear ha hb hc hyv c1'; omega
  · rw [hc.2, c1']
    clear ha hb hc hyv c1'
    omega

end Go.Proofs.Ytihjhkbbpphocaa
