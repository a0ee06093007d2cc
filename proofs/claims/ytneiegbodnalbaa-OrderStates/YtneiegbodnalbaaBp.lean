/- Contract of bits.Put over every place, width and worth: the set with the field put, or the error; no old memory is written. -/
import Derived.Test.YtneiegbodnalbaaBf
import Derived.BigRegion
namespace Go.Proofs.Ytneiegbodnalbaa
open Go.RowKit

/-- The set with another worth of a field. -/
def putV (N a b v : Nat) : Nat := butN N ((2 ^ b - 1) * 2 ^ a) ||| v * 2 ^ a
def putN (N : Nat) (a b : Int) (v : Nat) : Nat := if isF a b then (if v < 2 ^ b.toNat then putV N a.toNat b.toNat v else 0) else 0
def putE (a b : Int) (v : Nat) : Int := if isF a b then (if v < 2 ^ b.toNat then 0 else 11) else 1
theorem testBit_putV (N a b v i : Nat) (hv : v < 2 ^ b) : (putV N a b v).testBit i = if a ≤ i ∧ i < a + b then v.testBit (i - a) else N.testBit i := by
  unfold putV
  rw [Nat.testBit_or, testBit_but, Nat.testBit_mul_two_pow, Nat.testBit_mul_two_pow, Nat.testBit_two_pow_sub_one]
  by_cases h1 : a ≤ i
  · by_cases h2 : i < a + b
    · have h3 : i - a < b := by omega
      rw [if_pos ⟨h1, h2⟩]
      simp [h1, h3]
    · have h3 : ¬ i - a < b := by omega
      have h4 : v.testBit (i - a) = false := Nat.testBit_lt_two_pow (Nat.lt_of_lt_of_le hv (Nat.pow_le_pow_right (by decide) (by omega)))
      rw [if_neg (by omega), h4]
      simp [h3]
  · rw [if_neg (by omega)]
    simp [h1]

/-- The field's lower word, and its upper one. -/
def lowW (x b l v : Nat) : Nat := butN x ((2 ^ b - 1) * 2 ^ l % 18446744073709551616) ||| v * 2 ^ l % 18446744073709551616
def highW (x b m v : Nat) : Nat := butN x ((2 ^ b - 1) / 2 ^ m) ||| v / 2 ^ m
theorem but_lt {a b : Nat} (h : a < 18446744073709551616) : butN a b < 18446744073709551616 := by
  have : butN a b < 2 ^ 64 := by
    apply lt_of_bits
    intro i hi
    rw [testBit_but, small_testBit h hi]
    rfl
  exact this
theorem andNot_u64 {A B : Int} (a b : Nat) (hA : A = a) (hB : B = b) (ha : a < 18446744073709551616) (hb : b < 18446744073709551616) : bits .andNot .u64 A B = ((butN a b : Nat) : Int) := by
  rw [hA, hB, bits_andNot_u64_nat a b ha hb]
theorem low_eq (x b l v : Nat) (hx : x < 18446744073709551616) :
    bits .or .u64 (bits .andNot .u64 (x : Int) (IntKind.u64.wrap (((2 ^ b - 1 : Nat) : Int) * 2 ^ l))) (IntKind.u64.wrap ((v : Int) * 2 ^ l)) = ((lowW x b l v : Nat) : Int) := by
  have h1 := andNot_u64 x _ rfl (shl_cast (2 ^ b - 1) l) hx (Nat.mod_lt _ (by decide))
  rw [or_u64 _ _ h1 (shl_cast v l) (but_lt hx) (Nat.mod_lt _ (by decide))]
  rfl
theorem high_eq (x b m v : Nat) (hx : x < 18446744073709551616) (hb : b ≤ 64) (hv : v < 18446744073709551616) :
    bits .or .u64 (bits .andNot .u64 (x : Int) (((2 ^ b - 1 : Nat) : Int) / 2 ^ m)) ((v : Int) / 2 ^ m) = ((highW x b m v : Nat) : Int) := by
  have h1 := andNot_u64 x _ rfl (shr_cast (2 ^ b - 1) m) hx (shr_lt (ones_lt hb))
  rw [or_u64 _ _ h1 (shr_cast v m) (but_lt hx) (shr_lt hv)]
  rfl
theorem lowW_lt {x b l v : Nat} (hx : x < 18446744073709551616) : lowW x b l v < 18446744073709551616 := Nat.or_lt_two_pow (n := 64) (but_lt hx) (Nat.mod_lt _ (by decide))
theorem highW_lt {x b l v : Nat} (hx : x < 18446744073709551616) (hv : v < 18446744073709551616) : highW x b l v < 18446744073709551616 := Nat.or_lt_two_pow (n := 64) (but_lt hx) (shr_lt hv)
theorem word_putV (N a b v k : Nat) (hv : v < 2 ^ b) (hb : b ≤ 64) : word (putV N a b v) k =
    if k = a / 64 then lowW (word N k) b (a % 64) v else if k = a / 64 + 1 ∧ 64 < a % 64 + b then highW (word N k) b (64 - a % 64) v else word N k := by
  have hv64 : v < 18446744073709551616 := Nat.lt_of_lt_of_le hv (Nat.pow_le_pow_right (n := 2) (by decide) hb)
  have hbig : ∀ i, b ≤ i → v.testBit i = false := fun i hi => Nat.testBit_lt_two_pow (Nat.lt_of_lt_of_le hv (Nat.pow_le_pow_right (by decide) hi))
  have hw := word_lt N k
  by_cases h1 : k = a / 64
  · rw [if_pos h1]
    apply word_of_bits (lowW_lt hw)
    intro j hj
    unfold lowW
    rw [testBit_putV _ _ _ _ _ hv, Nat.testBit_or, testBit_but, testBit_shl _ _ _ hj, testBit_shl _ _ _ hj, testBit_word, Nat.testBit_two_pow_sub_one, decide_eq_true hj, Bool.true_and]
    by_cases h2 : a % 64 ≤ j
    · have e : 64 * k + j - a = j - a % 64 := by omega
      by_cases h3 : j - a % 64 < b
      · rw [if_pos (by omega), e, decide_eq_true h2, decide_eq_true h3]
        simp
      · rw [if_neg (by omega), decide_eq_true h2, decide_eq_false h3, hbig _ (by omega)]
        simp
    · rw [if_neg (by omega), decide_eq_false h2]
      simp
  · rw [if_neg h1]
    by_cases h2 : k = a / 64 + 1 ∧ 64 < a % 64 + b
    · rw [if_pos h2]
      apply word_of_bits (highW_lt hw hv64)
      intro j hj
      unfold highW
      rw [testBit_putV _ _ _ _ _ hv, Nat.testBit_or, testBit_but, Nat.testBit_div_two_pow, Nat.testBit_div_two_pow, testBit_word, Nat.testBit_two_pow_sub_one, decide_eq_true hj, Bool.true_and]
      have e : 64 * k + j - a = j + (64 - a % 64) := by omega
      by_cases h3 : j + (64 - a % 64) < b
      · rw [if_pos (by omega), e, decide_eq_true h3]
        simp
      · rw [if_neg (by omega), decide_eq_false h3, hbig _ (by omega)]
        simp
    · rw [if_neg h2]
      apply word_of_bits hw
      intro j hj
      rw [testBit_putV _ _ _ _ _ hv, if_neg (by omega), testBit_word, decide_eq_true hj, Bool.true_and]

/-- What stands in Put: the set's words in one block, the result's in the next. -/
structure PutAt (w : World) (f : Nat → Nat) (wr : World) : Prop where
  set : Cells8 wr w.heap.size f
  res : Cells8 wr (w.heap.size + 1) (fun _ => 0)
  below : Below w.heap.size w wr
theorem PutAt.start (w : World) (N : Nat) : PutAt w (word N) ((w.alloc (.cells (cellsF (word N)) 55)).alloc (.cells #[.int .u64 0, .int .u64 0, .int .u64 0, .int .u64 0, .int .u64 0, .int .u64 0, .int .u64 0, .int .u64 0] 55)) :=
  ⟨(Cells8.last w _).alloc _, by
    have := Cells8.last (w.alloc (.cells (cellsF (word N)) 55)) (fun _ => 0)
    simpa [cellsF] using this, ((Below.refl _ _).alloc (Nat.le_refl _) _).alloc (by simp) _⟩

theorem PutAt.put {w wr : World} {f : Nat → Nat} {k x : Nat} (h : PutAt w f wr) (hk : k < 8) : PutAt w (fun j => if j = k then x else f j) (wr.setCell ⟨w.heap.size, k, none⟩ (.int .u64 (x : Nat))).drew :=
  ⟨(h.set.set x hk).drew, (h.res.other (by omega) _).drew, (h.below.setCell (p := ⟨w.heap.size, k, none⟩) (Nat.le_refl _) _).drew⟩

theorem Cells8.stay {w w' : World} {b : Nat} {f : Nat → Nat} (h : Cells8 w b f) (hb : Below w.heap.size w w') : Cells8 w' b f := h.of_heap (hb.block b h.lt)
theorem PutAt.stay {w wr wr' : World} {f : Nat → Nat} (h : PutAt w f wr) (hb : Below wr.heap.size wr wr') : PutAt w f wr' := ⟨h.set.stay hb, h.res.stay hb, go_onB h.below hb⟩
theorem put_good {N a b v : Nat} (h : isF (a : Int) (b : Int) = true) (hv : v < 2 ^ b) : putN N a b v = putV N a b v ∧ putE a b v = 0 := by
  constructor
  · rw [putN, if_pos h, Int.toNat_natCast, Int.toNat_natCast, if_pos hv]
  · rw [putE, if_pos h, Int.toNat_natCast, if_pos hv]
theorem put_big {N a b v : Nat} (h : isF (a : Int) (b : Int) = true) (hv : ¬ v < 2 ^ b) : putN N a b v = 0 ∧ putE a b v = 11 := by
  constructor
  · rw [putN, if_pos h, Int.toNat_natCast, Int.toNat_natCast, if_neg hv]
  · rw [putE, if_pos h, Int.toNat_natCast, if_neg hv]
theorem put_bad {N v : Nat} {a b : Int} (h : ¬ isF a b = true) : putN N a b v = 0 ∧ putE a b v = 1 := by
  constructor
  · rw [putN, if_neg h]
  · rw [putE, if_neg h]

end Go.Proofs.Ytneiegbodnalbaa
