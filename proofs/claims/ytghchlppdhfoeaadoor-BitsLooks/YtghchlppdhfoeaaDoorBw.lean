/- Contracts of bits.Below and bits.Compare. -/
import Derived.Test.YtghchlppdhfoeaaDoorBt
import Derived.BigQuiet
namespace Go.Proofs.YtghchlppdhfoeaaDoor
open Go.RowKit

/-- All numbers below n. -/
def allN (n : Nat) : Nat := 2 ^ n - 1
theorem testBit_all (n i : Nat) : (allN n).testBit i = decide (i < n) := Nat.testBit_two_pow_sub_one n i
def belowN (n : Int) : Nat := if n < 0 ∨ 512 < n then 0 else allN n.toNat
def belowE (n : Int) : Int := if n < 0 ∨ 512 < n then 11 else 0
theorem word_all (n k : Nat) : word (allN n) k = 2 ^ (min ((n : Int) - (k : Int) * 64).toNat 64) - 1 := by
  apply word_of_bits (ones_lt (by omega))
  intro j hj
  rw [testBit_all, Nat.testBit_two_pow_sub_one, decide_eq_decide]
  omega
theorem fits_all {n : Nat} (h : n ≤ 512) : Fits (allN n) := fun i hi => by rw [testBit_all, decide_eq_false (by omega)]
/-- What stands in the loop of Below. -/
structure BeAt (w : World) (f : Nat → Nat) (wr : World) : Prop where
  res : Cells8 wr w.heap.size (fun _ => 0)
  out : Cells8 wr (w.heap.size + 1) f
  below : Below w.heap.size w wr
theorem BeAt.start (w : World) : BeAt w (fun _ => 0) ((w.alloc (.cells #[.int .u64 0, .int .u64 0, .int .u64 0, .int .u64 0, .int .u64 0, .int .u64 0, .int .u64 0, .int .u64 0] 25)).alloc (.cells #[.int .u64 0, .int .u64 0, .int .u64 0, .int .u64 0, .int .u64 0, .int .u64 0, .int .u64 0, .int .u64 0] 25)) := by
  have e : (cellsF fun _ => 0) = #[.int .u64 0, .int .u64 0, .int .u64 0, .int .u64 0, .int .u64 0, .int .u64 0, .int .u64 0, .int .u64 0] := rfl
  rw [← e]
  refine ⟨(Cells8.last w _).alloc _, ?_, ((Below.refl _ _).alloc (Nat.le_refl _) _).alloc (by simp) _⟩
  have := Cells8.last (w.alloc (.cells (cellsF fun _ => 0) 25)) (fun _ => 0)
  simpa using this
theorem BeAt.put {w wr : World} {k x : Nat} {f : Nat → Nat} (h : BeAt w f wr) (hk : k < 8) : BeAt w (fun j => if j = k then x else f j) (wr.setCell ⟨w.heap.size + 1, k, none⟩ (.int .u64 (x : Nat))) :=
  ⟨h.res.other (by omega) _, h.out.set x hk, h.below.setCell (p := ⟨w.heap.size + 1, k, none⟩) (by simp) _⟩
theorem BeAt.congr {w wr : World} {f g : Nat → Nat} (h : BeAt w f wr) (e : ∀ k, k < 8 → f k = g k) : BeAt w g wr := ⟨h.res, h.out.congr e, h.below⟩
theorem zero_cells : (cellsF fun _ => 0) = #[.int .u64 0, .int .u64 0, .int .u64 0, .int .u64 0, .int .u64 0, .int .u64 0, .int .u64 0, .int .u64 0] := rfl

end Go.Proofs.YtghchlppdhfoeaaDoor
