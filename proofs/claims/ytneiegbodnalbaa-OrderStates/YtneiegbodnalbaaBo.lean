/- Contract of bits.Of over any list that can be read: the set of its numbers, or the error; no old memory is written. -/
import Derived.Test.YtneiegbodnalbaaBs
namespace Go.Proofs.Ytneiegbodnalbaa
open Go.RowKit

/-- A list of ints, as it lies in memory. -/
def Reads (w : World) (v : Value) (xs : List Int) : Prop :=
  ∃ a cap, v = .slice a xs.length cap ∧ ∀ i, i < xs.length → ∃ g o, a = some ⟨g, o, none⟩ ∧ g < w.heap.size ∧ w.cell? ⟨g, o + i, none⟩ = some (.int .i64 (xs.getD i 0))
/-- The set of a list's numbers. -/
def ofL (xs : List Int) : Nat := xs.foldl (fun N i => N ||| 2 ^ i.toNat) 0
def inSet (i : Int) : Bool := decide (0 ≤ i ∧ i < 512)
/-- What Of answers. -/
def ofN (xs : List Int) : Nat := if xs.all inSet then ofL xs else 0
def ofE (xs : List Int) : Int := if xs.all inSet then 0 else 11
theorem ofL_take_succ (xs : List Int) (i : Nat) (h : i < xs.length) : ofL (xs.take (i + 1)) = ofL (xs.take i) ||| 2 ^ (xs.getD i 0).toNat := by
  unfold ofL
  rw [List.take_add_one, List.foldl_append]
  simp [h]
theorem testBit_ofL_aux (xs : List Int) : ∀ (N j : Nat), (xs.foldl (fun N i => N ||| 2 ^ i.toNat) N).testBit j = (N.testBit j || decide (∃ x ∈ xs, x.toNat = j)) := by
  induction xs with
  | nil => simp
  | cons x xs ih =>
    intro N j
    rw [List.foldl_cons, ih, Nat.testBit_or, Nat.testBit_two_pow, Bool.or_assoc]
    congr 1
    rw [Bool.eq_iff_iff]
    simp
theorem testBit_ofL (xs : List Int) (j : Nat) : (ofL xs).testBit j = decide (∃ x ∈ xs, x.toNat = j) := by
  unfold ofL
  rw [testBit_ofL_aux]
  simp
theorem word_or_bit (N i k : Nat) : word (N ||| 2 ^ i) k = if k = i / 64 then word N k ||| 2 ^ (i % 64) else word N k := by
  by_cases h : k = i / 64
  · rw [if_pos h]
    apply word_of_bits (Nat.or_lt_two_pow (n := 64) (word_lt N k) (two_pow_lt _ (Nat.mod_lt _ (by decide))))
    intro j hj
    rw [Nat.testBit_or, Nat.testBit_or, Nat.testBit_two_pow, Nat.testBit_two_pow, testBit_word]
    simp only [hj, decide_true, Bool.true_and]
    congr 1
    rw [decide_eq_decide]
    omega
  · rw [if_neg h]
    apply word_of_bits (word_lt N k)
    intro j hj
    rw [Nat.testBit_or, Nat.testBit_two_pow, testBit_word]
    have : ¬ i = 64 * k + j := by omega
    simp [hj, this]
theorem cells_or_bit (N : Nat) {i : Nat} (h : i < 512) : (cellsF (word N)).setIfInBounds (i / 64) (.int .u64 (word N (i / 64) ||| 2 ^ (i % 64) : Nat)) = cellsF (word (N ||| 2 ^ i)) := by
  rw [cellsF_set _ _ (by omega)]
  apply cellsF_congr
  intro k _
  rw [word_or_bit]
  by_cases hk : k = i / 64
  · rw [if_pos hk, if_pos hk, hk]
  · rw [if_neg hk, if_neg hk]

theorem ret_set {f g : Nat → Nat} {e : Value} (h : ∀ k, k < 8 → f k = g k) : Ending.returned (.tuple #[.agg (cellsF f), e]) = .returned (.tuple #[.agg (cellsF g), e]) := by rw [cellsF_congr h]
theorem of_bad {xs : List Int} {i : Nat} {x : Int} (h : i < xs.length) (hx : xs.getD i 0 = x) (hin : ¬ (0 ≤ x ∧ x < 512)) : ofN xs = 0 ∧ ofE xs = 11 := by
  have e : ¬ xs.all inSet = true := by
    rw [List.all_eq_true]
    intro ha
    have := ha x (by rw [← hx]; simp [h])
    simp [inSet] at this
    omega
  exact ⟨by rw [ofN, if_neg e], by rw [ofE, if_neg e]⟩
theorem of_good {xs : List Int} {i : Nat} (h : i = xs.length) (ha : ∀ j, j < i → inSet (xs.getD j 0) = true) : ofN xs = ofL (xs.take i) ∧ ofE xs = 0 := by
  have e : xs.all inSet = true := by
    rw [List.all_eq_true]
    intro x hx
    obtain ⟨j, hj, rfl⟩ := List.mem_iff_getElem.1 hx
    have := ha j (by omega)
    simpa [hj] using this
  refine ⟨?_, by rw [ofE, if_pos e]⟩
  rw [ofN, if_pos e, h, List.take_length]

/-- What stands in the loop of Of. -/
structure OfAt (w : World) (xs : List Int) (i : Nat) (wr : World) : Prop where
  all : ∀ j, j < i → inSet (xs.getD j 0) = true
  res : Cells8 wr w.heap.size (fun _ => 0)
  out : Cells8 wr (w.heap.size + 1) (word (ofL (xs.take i)))
  below : Below w.heap.size w wr

theorem or_u64 {A B : Int} (a b : Nat) (hA : A = a) (hB : B = b) (ha : a < 18446744073709551616) (hb : b < 18446744073709551616) : bits .or .u64 A B = ((a ||| b : Nat) : Int) := by
  rw [hA, hB, bits_or_u64_nat a b ha hb]
theorem OfAt.next {w wr : World} {xs : List Int} {i m k : Nat} (h : OfAt w xs i wr) (hlt : i < xs.length) (hx : xs.getD i 0 = (m : Int)) (hm : m < 512) (hk : m / 64 = k) :
    OfAt w xs (i + 1) (wr.setCell ⟨w.heap.size + 1, k, none⟩ (.int .u64 (bits .or .u64 (word (ofL (xs.take i)) k : Nat) (2 ^ (m % 64))))).drew := by
  have e : bits .or .u64 (word (ofL (xs.take i)) k : Nat) (2 ^ (m % 64)) = ((word (ofL (xs.take i)) k ||| 2 ^ (m % 64) : Nat) : Int) :=
    or_u64 _ (2 ^ (m % 64)) rfl (by simp) (word_lt _ _) (two_pow_lt _ (by omega))
  rw [e]
  refine ⟨?_, ?_, ?_, ?_⟩
  · intro j hj
    by_cases hji : j = i
    · rw [hji, hx]
      simp [inSet]
      omega
    · exact h.all j (by omega)
  · exact (h.res.other (by omega) _).drew
  · refine ((h.out.set _ (by omega)).congr ?_).drew
    intro j _
    rw [ofL_take_succ xs i hlt, hx, word_or_bit, Int.toNat_natCast, hk]
    by_cases hj : j = k
    · rw [if_pos hj, if_pos hj, hj]
    · rw [if_neg hj, if_neg hj]
  · exact (h.below.setCell (p := ⟨w.heap.size + 1, k, none⟩) (by simp) _).drew

end Go.Proofs.Ytneiegbodnalbaa
