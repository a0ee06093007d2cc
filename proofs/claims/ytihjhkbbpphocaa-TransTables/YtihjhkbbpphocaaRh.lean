/- Contracts of the document's Has and Of. -/
import Derived.Test.YtihjhkbbpphocaaBh
import Derived.BigRegion
namespace Go.Proofs.Ytihjhkbbpphocaa
open Go.RowKit

theorem rhas_bit (N m k l : Nat) (hk : m / 64 = k) (hl : m % 64 = l) : ((bits .and .u64 ((word N k : Nat) / 2 ^ l : Int) 1) == 1) = N.testBit m := by
  have h64 : l < 64 := by omega
  have e : 64 * k + l = m := by omega
  have hb : (word N k).testBit l = N.testBit m := by rw [testBit_word, e, decide_eq_true h64, Bool.true_and]
  have h1 : bits .and .u64 ((word N k : Nat) / 2 ^ l : Int) 1 = ((word N k / 2 ^ l &&& 1 : Nat) : Int) := and_u64B _ 1 (shr_cast _ _) rfl (shr_lt (word_lt N k)) (by decide)
  rw [h1, ← hb, Nat.testBit_eq_decide_div_mod_eq, Nat.and_one_is_mod, Bool.eq_iff_iff]
  simp only [beq_iff_eq, decide_eq_true_eq]
  omega

end Go.Proofs.Ytihjhkbbpphocaa
