/- Contracts of bits.Union, bits.Inter, bits.Minus and bits.Subset. -/
import Derived.Test.YtneiegbodnalbaaBp
import Derived.Test.YtneiegbodnalbaaBe
import Derived.BigRegion
namespace Go.Proofs.Ytneiegbodnalbaa
open Go.RowKit

/-- Two sets and a result, as they lie in memory. -/
structure TwoAt (w : World) (f : Nat → Nat) (B : Nat) (wr : World) : Prop where
  one : Cells8 wr w.heap.size f
  two : Cells8 wr (w.heap.size + 1) (word B)
  res : Cells8 wr (w.heap.size + 1 + 1) (fun _ => 0)
  below : Below w.heap.size w wr
theorem TwoAt.start (w : World) (A B : Nat) : TwoAt w (word A) B (((w.alloc (.cells (cellsF (word A)) 55)).alloc (.cells (cellsF (word B)) 55)).alloc (.cells #[.int .u64 0, .int .u64 0, .int .u64 0, .int .u64 0, .int .u64 0, .int .u64 0, .int .u64 0, .int .u64 0] 55)) := by
  refine ⟨((Cells8.last w _).alloc _).alloc _, ?_, ?_, (((Below.refl _ _).alloc (Nat.le_refl _) _).alloc (by simp) _).alloc (by simp; omega) _⟩
  · have := (Cells8.last (w.alloc (.cells (cellsF (word A)) 55)) (word B)).alloc (.cells #[.int .u64 0, .int .u64 0, .int .u64 0, .int .u64 0, .int .u64 0, .int .u64 0, .int .u64 0, .int .u64 0] 55)
    simpa using this
  · have := Cells8.last ((w.alloc (.cells (cellsF (word A)) 55)).alloc (.cells (cellsF (word B)) 55)) (fun _ => 0)
    have e : (cellsF fun _ => 0) = #[.int .u64 0, .int .u64 0, .int .u64 0, .int .u64 0, .int .u64 0, .int .u64 0, .int .u64 0, .int .u64 0] := rfl
    rw [e] at this
    simpa using this
theorem TwoAt.put {w wr : World} {B k x : Nat} {f : Nat → Nat} (h : TwoAt w f B wr) (hk : k < 8) : TwoAt w (fun j => if j = k then x else f j) B (wr.setCell ⟨w.heap.size, k, none⟩ (.int .u64 (x : Nat))).drew :=
  ⟨(h.one.set x hk).drew, (h.two.other (by omega) _).drew, (h.res.other (by omega) _).drew, (h.below.setCell (p := ⟨w.heap.size, k, none⟩) (Nat.le_refl _) _).drew⟩
theorem TwoAt.congr {w wr : World} {B : Nat} {f g : Nat → Nat} (h : TwoAt w f B wr) (e : ∀ k, k < 8 → f k = g k) : TwoAt w g B wr := ⟨h.one.congr e, h.two, h.res, h.below⟩
def orN (A B : Nat) : Nat := A ||| B
def andN (A B : Nat) : Nat := A &&& B
theorem word_union (A B k : Nat) : word (orN A B) k = word A k ||| word B k := by
  apply word_of_bits (Nat.or_lt_two_pow (n := 64) (word_lt A k) (word_lt B k))
  intro j hj
  unfold orN
  rw [Nat.testBit_or, Nat.testBit_or, testBit_word, testBit_word]
  simp [hj]
theorem word_inter (A B k : Nat) : word (andN A B) k = word A k &&& word B k := by
  apply word_of_bits (Nat.lt_of_le_of_lt Nat.and_le_left (word_lt A k))
  intro j hj
  unfold andN
  rw [Nat.testBit_and, Nat.testBit_and, testBit_word, testBit_word]
  simp [hj]
theorem word_minus (A B k : Nat) : word (butN A B) k = butN (word A k) (word B k) := by
  apply word_of_bits (but_lt (word_lt A k))
  intro j hj
  rw [testBit_but, testBit_but, testBit_word, testBit_word]
  simp [hj]

end Go.Proofs.Ytneiegbodnalbaa
